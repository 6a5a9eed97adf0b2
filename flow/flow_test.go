package flow_test

import (
	"math"
	"reflect"
	"slices"
	"testing"

	"evenpace/api"
	"evenpace/flow"
)

// in is an instruction with all of its fields.
func in(op, d, a, b, c, imm int) api.Instr {
	return api.Instr{Op: op, D: d, A: a, B: b, C: c, Imm: imm}
}

func ret(a int) api.Instr {
	return api.Instr{Op: api.OpRet, A: a}
}

func trap() api.Instr {
	return api.Instr{Op: api.OpTrap}
}

// noOps are no ops of flat instructions.
func noOps() []int {
	return []int{math.MinInt, -21, -1, 0, api.OpOn, api.OpBack, api.OpBack + 1, 31, 256 + api.OpAdd, 1<<32 + api.OpAdd, math.MaxInt}
}

func TestReadsAndMakes(t *testing.T) {
	const d, a, b, c, imm = 51, 52, 53, 54, 55
	type row struct {
		reads []int
		makes bool
	}
	want := map[int]row{
		api.OpSel:   {[]int{a, b, c}, true},
		api.OpConst: {nil, true},
		api.OpMove:  {[]int{a}, true},
		api.OpLoad:  {[]int{a}, true},
		api.OpStore: {[]int{a, d}, false},
		api.OpZero:  {[]int{a}, false},
		api.OpRet:   {[]int{a}, false},
	}
	for op := api.OpAdd; op <= api.OpSame; op++ {
		want[op] = row{[]int{a, b}, true}
	}
	for _, op := range append(noOps(), api.OpJump, api.OpTrap) {
		want[op] = row{}
	}
	if len(want) != 21+len(noOps()) {
		t.Fatalf("%d ops are asked for", len(want))
	}
	for op, w := range want {
		i := in(op, d, a, b, c, imm)
		if got := flow.Reads(i); !slices.Equal(got, w.reads) {
			t.Errorf("Reads of op %d is %v, not %v", op, got, w.reads)
		}
		if got := flow.Makes(i); got != w.makes {
			t.Errorf("Makes of op %d is %v", op, got)
		}
	}
}

func TestReadsHasWhatIsNoPlaceToo(t *testing.T) {
	i := in(api.OpSel, 7, -1, math.MaxInt, math.MinInt, 0)
	if got := flow.Reads(i); !slices.Equal(got, []int{-1, math.MaxInt, math.MinInt}) {
		t.Errorf("Reads is %v", got)
	}
	if got := flow.Reads(in(api.OpAdd, 7, 3, 3, 3, 0)); !slices.Equal(got, []int{3, 3}) {
		t.Errorf("Reads of one place twice is %v", got)
	}
}

func TestReadsAnswersAreTheCallers(t *testing.T) {
	for op := api.OpAdd; op <= api.OpTrap; op++ {
		i := in(op, 1, 2, 3, 4, 5)
		one, two := flow.Reads(i), flow.Reads(i)
		for k := range one {
			one[k] = 99
		}
		_ = append(one, 99)
		if slices.Contains(two, 99) || slices.Contains(flow.Reads(i), 99) {
			t.Errorf("answers of Reads of op %d share memory", op)
		}
	}
}

// some is right instructions with something of everything.
func some() api.Flat {
	return api.Flat{
		Code: []api.Instr{
			in(api.OpConst, 2, 0, 0, 0, 1),
			in(api.OpLoad, 3, 0, 1, 0, 0),
			in(api.OpMul, 3, 3, 1, 0, 0),
			in(api.OpStore, 3, 2, 1, 0, 0),
			in(api.OpZero, 0, 0, 0, 0, 6),
			trap(),
			ret(3),
		},
		Secret: []bool{false, true, false, true},
		Params: 2,
		Arrays: []api.Var{{Name: "t", Size: 1}, {Name: "u", Secret: true, Size: 2}},
	}
}

func TestOwn(t *testing.T) {
	f := some()
	x := flow.Own(f)
	if !reflect.DeepEqual(x, f) || !reflect.DeepEqual(f, some()) {
		t.Fatalf("Own of %v is %v", f, x)
	}
	f.Code[0], f.Secret[0], f.Arrays[0], f.Params = trap(), true, api.Var{}, 9
	if !reflect.DeepEqual(x, some()) {
		t.Errorf("a copy hangs on what it was made of: %v", x)
	}
	f = some()
	x = flow.Own(f)
	clear(x.Code[:cap(x.Code)])
	clear(x.Secret[:cap(x.Secret)])
	clear(x.Arrays[:cap(x.Arrays)])
	if !reflect.DeepEqual(f, some()) {
		t.Errorf("what was handed in hangs on its copy: %v", f)
	}
}

func TestOwnOfSpareRoom(t *testing.T) {
	f := some()
	code := append(slices.Clip(f.Code), ret(1))
	secret := append(slices.Clip(f.Secret), true)
	vars := append(slices.Clip(f.Arrays), api.Var{Name: "zap"})
	f.Code, f.Secret, f.Arrays = code[:7], secret[:4], vars[:2]
	x := flow.Own(f)
	if !reflect.DeepEqual(x, some()) {
		t.Errorf("with spare room behind it is %v", x)
	}
	_ = append(x.Code, trap())
	_ = append(x.Secret, false)
	_ = append(x.Arrays, api.Var{})
	if code[7] != ret(1) || !secret[4] || vars[2].Name != "zap" {
		t.Errorf("spare room is changed: %v, %v, %v", code, secret, vars)
	}
	none := api.Flat{Code: code[:0], Secret: secret[:0], Arrays: vars[:0]}
	x = flow.Own(none)
	_, _, _ = append(x.Code, trap()), append(x.Secret, true), append(x.Arrays, api.Var{Name: "zip"})
	if !reflect.DeepEqual(f, some()) {
		t.Errorf("a copy of nothing shares memory: %v", f)
	}
}

// A copy is one of whatever is handed in, right or not.
func TestOwnOfWhatIsNotRight(t *testing.T) {
	for _, f := range []api.Flat{{}, {Code: []api.Instr{}, Secret: []bool{}, Arrays: []api.Var{}}} {
		if x := flow.Own(f); len(x.Code)+len(x.Secret)+len(x.Arrays)+x.Params != 0 {
			t.Errorf("a copy of nothing is %v", x)
		}
	}
	f := api.Flat{Code: []api.Instr{in(math.MinInt, -1, -2, -3, -4, -5)}, Secret: []bool{true}, Params: math.MinInt, Arrays: []api.Var{{Size: -1}}}
	if x := flow.Own(f); !reflect.DeepEqual(x, f) {
		t.Errorf("Own of %v is %v", f, x)
	}
}
