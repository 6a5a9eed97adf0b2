package flow_test

import (
	"math"
	"reflect"
	"slices"
	"testing"

	"evenpace/api"
	"evenpace/flow"
)

func wantCheck(t *testing.T, f api.Flat, want api.Errno, where int) {
	t.Helper()
	if err, at := flow.Check(f); err != want || at != where {
		t.Errorf("Check of %d instructions, the first ones %v, is %d, at %d, not %d, at %d", len(f.Code), f.Code[:min(len(f.Code), 4)], err, at, want, where)
	}
}

// Places of the tests: public and secret ones, and the first that is none. Arrays likewise.
const (
	pub, pub2, sec, sec2, noPlace = 0, 1, 2, 3, 4
	pubArray, secArray, noArray   = 0, 1, 2
)

func over(code ...api.Instr) api.Flat {
	return api.Flat{
		Code:   code,
		Secret: []bool{false, false, true, true},
		Params: 1,
		Arrays: []api.Var{{Name: "t", Size: 2}, {Name: "u", Size: 2, Secret: true}},
	}
}

// wantOne looks at an instruction that is not the first one, with a good one ahead, and the end behind.
func wantOne(t *testing.T, i api.Instr, want api.Errno) {
	t.Helper()
	where := 1
	if want == api.OK {
		where = -1
	}
	wantCheck(t, over(in(api.OpConst, pub, 0, 0, 0, 3), i, ret(pub)), want, where)
}

func TestCheckOfHowManyThereAre(t *testing.T) {
	wantCheck(t, api.Flat{}, api.ErrMuch, -1)
	wantCheck(t, api.Flat{Code: []api.Instr{}}, api.ErrMuch, -1)
	wantCheck(t, api.Flat{Code: []api.Instr{trap()}}, api.OK, -1)
	many := slices.Repeat([]api.Instr{trap()}, api.MaxCode+1)
	wantCheck(t, api.Flat{Code: many[1:]}, api.OK, -1)
	wantCheck(t, api.Flat{Code: many}, api.ErrMuch, -1)
	many[0].Op = 0
	wantCheck(t, api.Flat{Code: many}, api.ErrMuch, -1)
	wantCheck(t, api.Flat{Code: many[:api.MaxCode]}, api.ErrKind, 0)
	// What lies behind the instructions is not looked at.
	wantCheck(t, api.Flat{Code: many[1:2]}, api.OK, -1)
}

func TestCheckOfParams(t *testing.T) {
	for n := range 4 {
		secret := make([]bool, n)
		for params := -2; params <= n+2; params++ {
			f := api.Flat{Code: []api.Instr{trap()}, Secret: secret, Params: params}
			if params < 0 || params > n {
				wantCheck(t, f, api.ErrMuch, -1)
				f.Code = []api.Instr{in(0, 0, 0, 0, 0, 0)}
				wantCheck(t, f, api.ErrMuch, -1)
			} else {
				wantCheck(t, f, api.OK, -1)
			}
		}
	}
	for _, params := range []int{math.MinInt, math.MaxInt, 1 << 32} {
		wantCheck(t, api.Flat{Code: []api.Instr{trap()}, Secret: []bool{true}, Params: params}, api.ErrMuch, -1)
	}
	spare := make([]bool, 9)
	wantCheck(t, api.Flat{Code: []api.Instr{trap()}, Secret: spare[:2], Params: 3}, api.ErrMuch, -1)
}

func TestCheckOfKinds(t *testing.T) {
	for op := api.OpAdd; op <= api.OpTrap; op++ {
		wantOne(t, in(op, pub, pub, 0, pub, 2), api.OK)
	}
	for _, op := range noOps() {
		wantOne(t, in(op, pub, pub, 0, pub, 2), api.ErrKind)
		wantOne(t, in(op, noPlace, sec, -1, noPlace, -1), api.ErrKind)
	}
}

// Each field that an op has must be there; others mean nothing.
func TestCheckOfRanges(t *testing.T) {
	for op := api.OpAdd; op <= api.OpTrap; op++ {
		good := in(op, pub, pub, 0, pub, 2)
		for _, n := range []int{-1, 99, math.MinInt, math.MaxInt, 1 << 32, -1 << 32} {
			for role, set := range map[string]func(i *api.Instr, n int){
				"ds": func(i *api.Instr, n int) { i.D = n },
				"a":  func(i *api.Instr, n int) { i.A = n },
				"bB": func(i *api.Instr, n int) { i.B = n },
				"c":  func(i *api.Instr, n int) { i.C = n },
			} {
				i := good
				set(&i, n)
				want := api.OK
				if slices.ContainsFunc([]byte(role), func(r byte) bool { return slices.Contains([]byte(roles(op)), r) }) {
					want = api.ErrRange
				}
				wantOne(t, i, want)
			}
		}
	}
}

func TestCheckOfPlacesAndArrays(t *testing.T) {
	wantOne(t, in(api.OpAdd, noPlace-1, noPlace-1, noPlace-1, 0, 0), api.OK)
	wantOne(t, in(api.OpAdd, noPlace, pub, pub, 0, 0), api.ErrRange)
	wantOne(t, in(api.OpAdd, sec, noPlace, pub, 0, 0), api.ErrRange)
	wantOne(t, in(api.OpAdd, sec, pub, noPlace, 0, 0), api.ErrRange)
	wantOne(t, in(api.OpSel, sec, pub, pub, noPlace, 0), api.ErrRange)
	wantOne(t, in(api.OpSel, sec, pub, pub, noPlace-1, 0), api.OK)
	wantOne(t, in(api.OpLoad, sec, pub, noArray-1, 0, 0), api.OK)
	wantOne(t, in(api.OpLoad, sec, pub, noArray, 0, 0), api.ErrRange)
	wantOne(t, in(api.OpStore, pub, pub, noArray-1, 0, 0), api.OK)
	wantOne(t, in(api.OpStore, pub, pub, noArray, 0, 0), api.ErrRange)
	wantOne(t, in(api.OpStore, noPlace, pub, secArray, 0, 0), api.ErrRange)
	wantOne(t, ret(noPlace-1), api.OK)
	wantOne(t, ret(noPlace), api.ErrRange)
	wantCheck(t, api.Flat{Code: []api.Instr{in(api.OpConst, 0, 0, 0, 0, 0), trap()}}, api.ErrRange, 0)
	wantCheck(t, api.Flat{Code: []api.Instr{ret(0)}}, api.ErrRange, 0)
	wantCheck(t, api.Flat{Code: []api.Instr{in(api.OpLoad, 0, 0, 0, 0, 0), trap()}, Secret: []bool{false}}, api.ErrRange, 0)
}

func TestCheckOfNumbers(t *testing.T) {
	for n, want := range map[int]api.Errno{
		0: api.OK, 1: api.OK, api.MaxWord: api.OK, api.MaxWord + 1: api.ErrRange,
		-1: api.ErrRange, math.MinInt: api.ErrRange, math.MaxInt: api.ErrRange,
	} {
		wantOne(t, in(api.OpConst, pub, 0, 0, 0, n), want)
		wantOne(t, in(api.OpAdd, pub, pub, pub, 0, n), api.OK)
	}
}

func TestCheckOfJumps(t *testing.T) {
	for _, op := range []int{api.OpJump, api.OpZero} {
		for imm, want := range map[int]api.Errno{
			math.MinInt: api.ErrRange, -1: api.ErrRange, 0: api.ErrRange, 1: api.ErrRange,
			2: api.OK, 3: api.ErrRange, 4: api.ErrRange, math.MaxInt: api.ErrRange,
		} {
			wantOne(t, in(op, 0, pub, 0, 0, imm), want)
		}
	}
	wantCheck(t, over(in(api.OpJump, 0, 0, 0, 0, 3), trap(), trap(), ret(sec)), api.OK, -1)
	wantCheck(t, over(in(api.OpZero, 0, pub, 0, 0, 4), trap(), trap(), ret(sec)), api.ErrRange, 0)
}

func TestCheckOfLabels(t *testing.T) {
	for op := api.OpAdd; op <= api.OpSame; op++ {
		for _, a := range []int{pub, pub2, sec, sec2} {
			for _, b := range []int{pub, pub2, sec, sec2} {
				wantOne(t, in(op, sec, a, b, 0, 0), api.OK)
				want := api.OK
				if a >= sec || b >= sec {
					want = api.ErrLabel
				}
				wantOne(t, in(op, pub, a, b, sec, 0), want)
			}
		}
	}
	for k := range 8 {
		a, b, c := (k&1)*sec, (k>>1&1)*sec, (k>>2&1)*sec
		want := api.ErrLabel
		if k == 0 {
			want = api.OK
		}
		wantOne(t, in(api.OpSel, pub2, a, b, c, 0), want)
		wantOne(t, in(api.OpSel, sec2, a, b, c, 0), api.OK)
	}
	wantOne(t, in(api.OpConst, pub, sec, sec, sec, 1), api.OK)
	wantOne(t, in(api.OpConst, sec, pub, pub, pub, 1), api.OK)
	wantOne(t, in(api.OpMove, pub, sec, 0, 0, 0), api.ErrLabel)
	wantOne(t, in(api.OpMove, pub, pub2, sec, sec, 0), api.OK)
	wantOne(t, in(api.OpMove, sec, sec2, 0, 0, 0), api.OK)
	wantOne(t, in(api.OpZero, sec, sec, 0, 0, 2), api.ErrLabel)
	wantOne(t, in(api.OpZero, sec, pub, sec, sec, 2), api.OK)
	wantOne(t, in(api.OpJump, pub, sec, sec, sec, 2), api.OK)
	wantOne(t, in(api.OpRet, pub, sec, sec, sec, 0), api.OK)
	wantOne(t, in(api.OpTrap, pub, sec, sec, sec, 0), api.OK)
}

func TestCheckOfLabelsOfArrays(t *testing.T) {
	for _, c := range []struct {
		op, d, a, array int
		want            api.Errno
	}{
		{api.OpLoad, pub, pub, pubArray, api.OK},
		{api.OpLoad, sec, pub, pubArray, api.OK},
		{api.OpLoad, pub, pub, secArray, api.ErrLabel},
		{api.OpLoad, sec, pub, secArray, api.OK},
		{api.OpLoad, pub, sec, pubArray, api.ErrLabel},
		{api.OpLoad, sec, sec, pubArray, api.ErrLabel},
		{api.OpLoad, pub, sec, secArray, api.ErrLabel},
		{api.OpLoad, sec, sec, secArray, api.ErrLabel},
		{api.OpStore, pub, pub, pubArray, api.OK},
		{api.OpStore, sec, pub, pubArray, api.ErrLabel},
		{api.OpStore, pub, pub, secArray, api.OK},
		{api.OpStore, sec, pub, secArray, api.OK},
		{api.OpStore, pub, sec, pubArray, api.ErrLabel},
		{api.OpStore, sec, sec, pubArray, api.ErrLabel},
		{api.OpStore, pub, sec, secArray, api.ErrLabel},
		{api.OpStore, sec, sec, secArray, api.ErrLabel},
	} {
		wantOne(t, in(c.op, c.d, c.a, c.array, 0, 0), c.want)
	}
}

// A secret times itself is secret.
func TestCheckOfASecretTimesItself(t *testing.T) {
	wantOne(t, in(api.OpMul, pub, sec, sec, 0, 0), api.ErrLabel)
	wantOne(t, in(api.OpMul, sec, sec, sec, 0, 0), api.OK)
}

func TestCheckOfTheEnd(t *testing.T) {
	for op := api.OpAdd; op <= api.OpStore; op++ {
		last := in(op, pub, pub, 0, pub, 0)
		wantCheck(t, over(last), api.ErrEnd, 0)
		wantCheck(t, over(ret(pub), trap(), last), api.ErrEnd, 2)
	}
	wantCheck(t, over(trap(), ret(sec)), api.OK, -1)
	wantCheck(t, over(ret(pub), trap()), api.OK, -1)
	// A jump that is the last one leads to no instruction.
	wantCheck(t, over(in(api.OpJump, 0, 0, 0, 0, 1)), api.ErrRange, 0)
	wantCheck(t, over(in(api.OpZero, 0, pub, 0, 0, 1)), api.ErrRange, 0)
}

func TestCheckTellsTheFirstFault(t *testing.T) {
	kind, reach, label := in(0, 0, 0, 0, 0, 0), in(api.OpMove, pub, noPlace, 0, 0, 0), in(api.OpMove, pub, sec, 0, 0, 0)
	good := in(api.OpMove, pub, pub2, 0, 0, 0)
	wantCheck(t, over(good, label, reach, kind), api.ErrLabel, 1)
	wantCheck(t, over(good, good, reach, label), api.ErrRange, 2)
	wantCheck(t, over(kind, reach, label), api.ErrKind, 0)
	wantCheck(t, over(good, good, label), api.ErrLabel, 2)
	wantCheck(t, over(good, good, good), api.ErrEnd, 2)
	wantCheck(t, over(in(api.OpAdd, pub, sec, noPlace, 0, 0), trap()), api.ErrRange, 0)
	wantCheck(t, over(in(api.OpLoad, pub, sec, noArray, 0, 0), trap()), api.ErrRange, 0)
	wantCheck(t, over(in(api.OpZero, 0, sec, 0, 0, 0), trap()), api.ErrRange, 0)
}

// What is not there of arrays, as how many words they have, does not matter to Check.
func TestCheckDoesNotAskForSizes(t *testing.T) {
	f := over(in(api.OpLoad, pub, pub, 0, 0, 0), ret(pub))
	for _, size := range []int{math.MinInt, -1, 0, 9, math.MaxInt} {
		f.Arrays[0] = api.Var{Size: size}
		wantCheck(t, f, api.OK, -1)
	}
}

func TestCheckOnlyReads(t *testing.T) {
	f := some()
	wantCheck(t, f, api.OK, -1)
	if !reflect.DeepEqual(f, some()) {
		t.Errorf("instructions are %v then", f)
	}
}
