package fold_test

import (
	"fmt"
	"math"
	"reflect"
	"slices"
	"testing"

	"evenpace/api"
	"evenpace/eval"
	"evenpace/flow"
	"evenpace/fold"
	"evenpace/label"
	"evenpace/lang"
	"evenpace/legal"
	"evenpace/lower"
)

// in is an instruction with all of its fields.
func in(op, d, a, b, c, imm int) api.Instr {
	return api.Instr{Op: op, D: d, A: a, B: b, C: c, Imm: imm}
}

func num(d, imm int) api.Instr {
	return api.Instr{Op: api.OpConst, D: d, Imm: imm}
}

func add(d, a, b int) api.Instr {
	return api.Instr{Op: api.OpAdd, D: d, A: a, B: b}
}

func move(d, a int) api.Instr {
	return api.Instr{Op: api.OpMove, D: d, A: a}
}

func jump(to int) api.Instr {
	return api.Instr{Op: api.OpJump, Imm: to}
}

func zero(a, to int) api.Instr {
	return api.Instr{Op: api.OpZero, A: a, Imm: to}
}

func load(d, a int) api.Instr {
	return api.Instr{Op: api.OpLoad, D: d, A: a}
}

func store(d, a int) api.Instr {
	return api.Instr{Op: api.OpStore, D: d, A: a}
}

func ret(a int) api.Instr {
	return api.Instr{Op: api.OpRet, A: a}
}

func trap() api.Instr {
	return api.Instr{Op: api.OpTrap}
}

// list is instructions over five places, all of them public, the first of which is given, and an array.
func list(code ...api.Instr) api.Flat {
	return api.Flat{Code: code, Secret: make([]bool, 5), Params: 1, Arrays: []api.Var{{Name: "t", Size: 2}}}
}

func clone(f api.Flat) api.Flat {
	return api.Flat{Code: slices.Clone(f.Code), Secret: slices.Clone(f.Secret), Params: f.Params, Arrays: slices.Clone(f.Arrays)}
}

// sameFlat has nil and a list without entries the same.
func sameFlat(a, b api.Flat) bool {
	return slices.Equal(a.Code, b.Code) && slices.Equal(a.Secret, b.Secret) && a.Params == b.Params && slices.Equal(a.Arrays, b.Arrays)
}

func sameEnd(a, b api.Ended) bool {
	return a.Word == b.Word && a.Trap == b.Trap && slices.EqualFunc(a.Arrays, b.Arrays, slices.Equal)
}

// brief tells instructions, the first ones of them.
func brief(f api.Flat) string {
	s := fmt.Sprint(f)
	return s[:min(len(s), 800)]
}

// faces has all three, by their names.
func faces() map[string]func(api.Flat) api.Flat {
	return map[string]func(api.Flat) api.Flat{"Numbers": fold.Numbers, "Used": fold.Used, "Fold": fold.Fold}
}

// wantFlat has got be what is wanted, and right, as all that is answered of what is right.
func wantFlat(t *testing.T, what string, f, got, want api.Flat) {
	t.Helper()
	if !sameFlat(got, want) {
		t.Fatalf("%s of %s is %s, not %s", what, brief(f), brief(got), brief(want))
	}
	if err, at := flow.Check(got); err != api.OK {
		t.Fatalf("%s of %s is not right: %d at %d", what, brief(f), err, at)
	}
}

// wantCode has instructions be answered, over the same places and arrays.
func wantCode(t *testing.T, what string, f api.Flat, want ...api.Instr) {
	t.Helper()
	if err, at := flow.Check(f); err != api.OK {
		t.Fatalf("%v is not right: %d at %d", f, err, at)
	}
	y := clone(f)
	y.Code = want
	wantFlat(t, what, f, faces()[what](f), y)
}

func TestNumbersOfTwo(t *testing.T) {
	for _, c := range []struct{ op, a, b, want int }{
		{api.OpAdd, 5, 7, 12},
		{api.OpAdd, api.MaxWord, 1, 0},
		{api.OpSub, 0, 1, api.MaxWord},
		{api.OpAnd, 12, 10, 8},
		{api.OpOr, 12, 10, 14},
		{api.OpXor, 12, 10, 6},
		{api.OpShl, 3, 31, 1 << 31},
		{api.OpShl, 9, 32, 9},
		{api.OpShr, 1 << 31, 31, 1},
		{api.OpMul, 5, 7, 35},
		{api.OpMul, api.MaxWord, api.MaxWord, 1},
		{api.OpDiv, 17, 5, 3},
		{api.OpDiv, 7, 0, api.MaxWord},
		{api.OpRem, 17, 5, 2},
		{api.OpRem, 7, 0, 7},
		{api.OpLess, 5, 7, 1},
		{api.OpLess, 7, 5, 0},
		{api.OpSame, 7, 7, 1},
		{api.OpSame, 7, 5, 0},
	} {
		two := api.Instr{Op: c.op, D: 3, A: 1, B: 2}
		wantCode(t, "Numbers", list(num(1, c.a), num(2, c.b), two, ret(3)), num(1, c.a), num(2, c.b), num(3, c.want), ret(3))
		wantCode(t, "Fold", list(num(1, c.a), num(2, c.b), two, ret(3)), num(3, c.want), ret(3))
	}
}

func TestNumbersOfAllThatIsRead(t *testing.T) {
	for op := api.OpAdd; op <= api.OpSame; op++ {
		for _, i := range []api.Instr{{Op: op, D: 2, A: 1, B: 0}, {Op: op, D: 2, A: 0, B: 1}, {Op: op, D: 2}} {
			wantCode(t, "Numbers", list(num(1, 0), i, ret(2)), num(1, 0), i, ret(2))
		}
		// What is not read is no matter.
		i := in(op, 2, 1, 1, 0, 3)
		x := fold.Numbers(list(num(1, 4), i, ret(2)))
		if x.Code[1].Op != api.OpConst || x.Code[1].C != 0 {
			t.Errorf("op %d of what is known is %v", op, x.Code[1])
		}
	}
	for k := range 8 {
		// One of these is given, so that it is not known.
		a, b, c := k&1, k>>1&1, k>>2&1
		i := in(api.OpSel, 2, a, b, c, 0)
		want := i
		if k == 7 {
			want = num(2, 6)
		}
		wantCode(t, "Numbers", list(num(1, 6), i, ret(2)), num(1, 6), want, ret(2))
	}
	for a, want := range map[int]int{0: 9, 1: 8, 1 << 31: 8, api.MaxWord: 8} {
		wantCode(t, "Numbers", list(num(1, a), num(2, 8), num(3, 9), in(api.OpSel, 4, 1, 2, 3, 0), ret(4)), num(1, a), num(2, 8), num(3, 9), num(4, want), ret(4))
	}
	wantCode(t, "Numbers", list(num(1, 6), move(2, 1), move(3, 2), ret(3)), num(1, 6), num(2, 6), num(3, 6), ret(3))
	wantCode(t, "Numbers", list(move(2, 0), move(3, 2), ret(3)), move(2, 0), move(3, 2), ret(3))
}

// Noughts that are in places at first are not known, nor is anything by what else is known of it.
func TestNumbersOfWhatIsNotKnown(t *testing.T) {
	wantCode(t, "Numbers", list(add(2, 3, 4), ret(2)), add(2, 3, 4), ret(2))
	wantCode(t, "Numbers", list(in(api.OpSub, 1, 0, 0, 0, 0), add(2, 1, 1), ret(2)), in(api.OpSub, 1, 0, 0, 0, 0), add(2, 1, 1), ret(2))
}

func TestNumbersOfArrays(t *testing.T) {
	// What is stored is not known when it is loaded; what is stored, and where, is known as it was.
	code := []api.Instr{num(1, 1), num(2, 7), store(2, 1), load(3, 1), add(4, 3, 1), add(3, 2, 1), ret(3)}
	want := slices.Clone(code)
	want[5] = num(3, 8)
	wantCode(t, "Numbers", list(code...), want...)
	// A load has what was known of its place go.
	wantCode(t, "Numbers", list(num(1, 1), load(1, 1), add(2, 1, 1), ret(2)), num(1, 1), load(1, 1), add(2, 1, 1), ret(2))
}

func TestNumbersOfPlacesMadeAnew(t *testing.T) {
	wantCode(t, "Numbers", list(num(1, 5), add(1, 1, 1), add(1, 1, 1), ret(1)), num(1, 5), num(1, 10), num(1, 20), ret(1))
	wantCode(t, "Numbers", list(num(1, 5), add(1, 1, 0), add(2, 1, 1), ret(2)), num(1, 5), add(1, 1, 0), add(2, 1, 1), ret(2))
	wantCode(t, "Numbers", list(num(1, 5), num(1, 6), move(2, 1), ret(2)), num(1, 5), num(1, 6), num(2, 6), ret(2))
	wantCode(t, "Numbers", list(num(1, 5), move(1, 0), num(1, 6), move(2, 1), ret(2)), num(1, 5), move(1, 0), num(1, 6), num(2, 6), ret(2))
}

func TestNumbersWhereOthersLead(t *testing.T) {
	// Behind a jump, or an end, to which none leads, it is known what was; where one leads, nothing is.
	for _, i := range []api.Instr{zero(0, 4), jump(4), ret(0), trap(), store(1, 1)} {
		code := []api.Instr{num(1, 5), i, move(2, 1), ret(2), trap()}
		want := slices.Clone(code)
		want[2] = num(2, 5)
		wantCode(t, "Numbers", list(code...), want...)
	}
	for _, i := range []api.Instr{zero(0, 2), jump(2)} {
		wantCode(t, "Numbers", list(num(1, 5), i, move(2, 1), ret(2)), num(1, 5), i, move(2, 1), ret(2))
		// One that itself is never done leads there as well.
		wantCode(t, "Numbers", list(trap(), leading(i, 3), num(1, 5), move(2, 1), ret(2)), trap(), leading(i, 3), num(1, 5), move(2, 1), ret(2))
	}
	// It is known anew from there on, until the next one.
	wantCode(t, "Numbers",
		list(num(1, 5), zero(0, 3), zero(0, 6), num(2, 7), add(3, 1, 2), add(3, 2, 2), add(3, 2, 2), ret(3)),
		num(1, 5), zero(0, 3), zero(0, 6), num(2, 7), add(3, 1, 2), num(3, 14), add(3, 2, 2), ret(3))
	// A number by which OpZero leads leads as it did.
	wantCode(t, "Numbers", list(num(1, 0), zero(1, 3), trap(), ret(1)), num(1, 0), zero(1, 3), trap(), ret(1))
}

// leading is i, but that it leads elsewhere.
func leading(i api.Instr, to int) api.Instr {
	i.Imm = to
	return i
}

// Fields that mean nothing stay, where the instruction does, and are noughts where it is made a number.
func TestFieldsThatMeanNothing(t *testing.T) {
	code := []api.Instr{in(api.OpConst, 1, 7, -8, 9, 5), in(api.OpMove, 2, 1, -1, 99, 77), in(api.OpMove, 3, 0, -1, 99, 77), in(api.OpAdd, 3, 3, 2, -5, -6), in(api.OpRet, -3, 3, 8, 7, 99)}
	want := slices.Clone(code)
	want[1] = num(2, 5)
	wantCode(t, "Numbers", list(code...), want...)
	wantCode(t, "Used", list(code...), code...)
	wantCode(t, "Fold", list(code...), want[1:]...)
}

func TestUsedOfWhatIsNotRead(t *testing.T) {
	for op := api.OpAdd; op <= api.OpLoad; op++ {
		i := in(op, 1, 0, 0, 0, 3)
		wantCode(t, "Used", list(i, ret(0)), ret(0))
		wantCode(t, "Used", list(i, trap()), trap())
		wantCode(t, "Used", list(i, ret(1)), i, ret(1))
		wantCode(t, "Used", list(i, move(1, 0), ret(1)), move(1, 0), ret(1))
		wantCode(t, "Used", list(move(1, 0), i, ret(0)), ret(0))
	}
	for op := api.OpStore; op <= api.OpTrap; op++ {
		i := in(op, 1, 0, 0, 0, 1)
		wantCode(t, "Used", list(i, ret(0)), i, ret(0))
	}
}

// Each that reads it is enough, wherever it reads it.
func TestUsedOfWhatIsRead(t *testing.T) {
	for op := api.OpAdd; op <= api.OpSame; op++ {
		for _, i := range []api.Instr{{Op: op, D: 2, A: 1, B: 0}, {Op: op, D: 2, A: 0, B: 1}, {Op: op, D: 1, A: 1, B: 1}} {
			wantCode(t, "Used", list(num(1, 5), i, ret(i.D)), num(1, 5), i, ret(i.D))
		}
		i := in(op, 2, 0, 0, 1, 1)
		wantCode(t, "Used", list(num(1, 5), i, ret(2)), i, ret(2))
	}
	for k := range 8 {
		i := in(api.OpSel, 2, k&1, k>>1&1, k>>2&1, 0)
		if k == 0 {
			wantCode(t, "Used", list(num(1, 5), i, ret(2)), i, ret(2))
		} else {
			wantCode(t, "Used", list(num(1, 5), i, ret(2)), num(1, 5), i, ret(2))
		}
	}
	for _, i := range []api.Instr{store(1, 0), store(0, 1), zero(1, 2), move(0, 1), load(0, 1)} {
		wantCode(t, "Used", list(num(1, 1), i, ret(0)), num(1, 1), i, ret(0))
	}
	// What looks like a place, but is not read.
	for _, i := range []api.Instr{in(api.OpStore, 0, 0, 0, 1, 1), in(api.OpTrap, 1, 1, 1, 1, 1), in(api.OpRet, 1, 0, 1, 1, 1)} {
		wantCode(t, "Used", list(num(1, 5), i, ret(0)), i, ret(0))
	}
	for _, i := range []api.Instr{in(api.OpJump, 1, 1, 1, 1, 2), in(api.OpZero, 1, 0, 1, 1, 2)} {
		wantCode(t, "Used", list(num(1, 5), i, ret(0)), leading(i, 1), ret(0))
	}
}

// What is read only by what goes goes, too; so does what reads only itself.
func TestUsedByWhatStays(t *testing.T) {
	wantCode(t, "Used", list(num(1, 5), add(2, 1, 1), add(3, 2, 1), load(4, 3), ret(0)), ret(0))
	wantCode(t, "Used", list(num(1, 5), add(1, 1, 1), add(1, 1, 1), ret(0)), ret(0))
	wantCode(t, "Used", list(num(1, 5), add(1, 1, 1), add(2, 1, 1), ret(1)), num(1, 5), add(1, 1, 1), ret(1))
	// What would make it anew goes, and reads nothing: what was made ahead goes, too.
	wantCode(t, "Used", list(num(1, 5), add(2, 1, 0), num(2, 3), ret(2)), num(2, 3), ret(2))
	wantCode(t, "Used", list(num(1, 5), num(1, 6), ret(1)), num(1, 6), ret(1))
}

func TestUsedOnEachWay(t *testing.T) {
	// It is read on one way only: it stays, whichever that is, whatever is known of where it leads.
	wantCode(t, "Used", list(num(1, 5), zero(0, 3), ret(1), trap()), num(1, 5), zero(0, 3), ret(1), trap())
	wantCode(t, "Used", list(num(1, 5), zero(0, 3), trap(), ret(1)), num(1, 5), zero(0, 3), trap(), ret(1))
	wantCode(t, "Used", list(num(2, 1), num(1, 5), zero(2, 4), trap(), ret(1)), num(2, 1), num(1, 5), zero(2, 4), trap(), ret(1))
	// It is made anew on each way, or not read, and goes.
	wantCode(t, "Used",
		list(num(1, 5), zero(0, 4), num(1, 6), ret(1), num(1, 7), ret(1)),
		zero(0, 3), num(1, 6), ret(1), num(1, 7), ret(1))
	// It is made anew on one way only.
	wantCode(t, "Used",
		list(num(1, 5), zero(0, 3), num(1, 6), ret(1)),
		num(1, 5), zero(0, 3), num(1, 6), ret(1))
	// A jump leads past where it is read, and past where it is made anew.
	wantCode(t, "Used", list(num(1, 5), jump(3), ret(1), trap()), jump(2), ret(1), trap())
	wantCode(t, "Used", list(num(1, 5), jump(3), num(1, 6), ret(1)), num(1, 5), jump(3), num(1, 6), ret(1))
	wantCode(t, "Used", list(num(1, 5), jump(4), num(1, 6), trap(), ret(1)), num(1, 5), jump(3), trap(), ret(1))
	// The end is no way on.
	for _, end := range []api.Instr{ret(0), trap()} {
		wantCode(t, "Used", list(num(1, 5), end, ret(1)), end, ret(1))
	}
	// Where nothing leads there are ways on as well.
	wantCode(t, "Used", list(trap(), num(1, 5), num(2, 6), ret(1)), trap(), num(1, 5), ret(1))
}

func TestUsedLeadsToWhatItLedTo(t *testing.T) {
	// What they led to is gone: they lead to the next one that stays, even if several go, and if that is the next one to them.
	wantCode(t, "Used", list(zero(0, 2), num(1, 1), num(1, 2), trap()), zero(0, 1), trap())
	wantCode(t, "Used", list(jump(1), num(1, 2), num(1, 3), num(1, 4), ret(0)), jump(1), ret(0))
	wantCode(t, "Used",
		list(num(1, 1), zero(0, 5), num(1, 1), jump(7), num(1, 1), num(2, 3), ret(2), num(1, 1), num(1, 1), num(3, 4), ret(3)),
		zero(0, 2), jump(4), num(2, 3), ret(2), num(3, 4), ret(3))
	// What they led to stays.
	wantCode(t, "Used", list(zero(0, 3), num(1, 1), ret(0), num(2, 2), ret(2)), zero(0, 2), ret(0), num(2, 2), ret(2))
	wantCode(t, "Used", list(zero(0, 2), jump(2), jump(3), ret(0)), zero(0, 2), jump(2), jump(3), ret(0))
}

func TestFoldIsUsedOfNumbers(t *testing.T) {
	// 5, and 5 more: 10, and the 5 goes.
	wantCode(t, "Fold", list(num(1, 5), add(2, 1, 1), ret(2)), num(2, 10), ret(2))
	wantCode(t, "Fold", list(num(1, 5), add(2, 1, 1), ret(0)), ret(0))
	wantCode(t, "Fold", list(num(1, 5), zero(0, 3), move(2, 1), ret(2)), zero(0, 2), num(2, 5), ret(2))
	wantCode(t, "Fold", list(num(1, 5), zero(0, 3), trap(), move(2, 1), ret(2)), num(1, 5), zero(0, 3), trap(), move(2, 1), ret(2))
	wantCode(t, "Fold",
		list(num(1, 3), num(2, 4), in(api.OpMul, 3, 1, 2, 0, 0), in(api.OpMul, 4, 3, 0, 0, 0), store(4, 1), ret(3)),
		num(1, 3), num(3, 12), in(api.OpMul, 4, 3, 0, 0, 0), store(4, 1), ret(3))
}

// The fewest there may be stay as they are.
func TestOfTheFewest(t *testing.T) {
	for what := range faces() {
		wantCode(t, what, list(trap()), trap())
		wantCode(t, what, list(ret(4)), ret(4))
		wantCode(t, what, list(jump(1), trap()), jump(1), trap())
		wantCode(t, what, list(zero(0, 1), trap()), zero(0, 1), trap())
	}
}

// A number is no secret, but stays in a place that is one.
func TestLabelsStay(t *testing.T) {
	f := list(num(1, 5), add(2, 1, 1), in(api.OpXor, 3, 2, 0, 0, 0), ret(3))
	f.Secret = []bool{true, false, true, true, true}
	f.Arrays[0].Secret = true
	wantCode(t, "Numbers", f, num(1, 5), num(2, 10), f.Code[2], ret(3))
	wantCode(t, "Used", f, f.Code...)
	wantCode(t, "Fold", f, num(2, 10), f.Code[2], ret(3))
}

// some has something of everything.
func some() api.Flat {
	return list(num(1, 1), zero(0, 4), add(2, 1, 1), jump(6), num(4, 9), load(2, 0), store(2, 1), num(3, 8), add(3, 3, 3), move(4, 2), in(api.OpSel, 4, 3, 3, 3, 0), add(4, 4, 2), ret(4))
}

func TestWhatIsHandedInIsOnlyRead(t *testing.T) {
	for what, by := range faces() {
		f := some()
		want := by(f)
		code := append(slices.Clip(f.Code), ret(77))
		secret := append(slices.Clip(f.Secret), true)
		vars := append(slices.Clip(f.Arrays), api.Var{Name: "zap"})
		in := api.Flat{Code: code[:len(f.Code)], Secret: secret[:len(f.Secret)], Params: f.Params, Arrays: vars[:len(f.Arrays)]}
		unchanged := func() bool {
			return sameFlat(in, some()) && code[len(f.Code)] == ret(77) && secret[len(f.Secret)] && vars[len(f.Arrays)].Name == "zap"
		}
		y := by(in)
		wantFlat(t, what, in, y, want)
		if !unchanged() {
			t.Fatalf("%s changes what was handed in: %v", what, in)
		}
		clear(y.Code[:cap(y.Code)])
		clear(y.Secret[:cap(y.Secret)])
		clear(y.Arrays[:cap(y.Arrays)])
		if !unchanged() {
			t.Fatalf("what was handed in hangs on what %s answered: %v", what, in)
		}
		y = by(in)
		clear(code)
		clear(secret)
		clear(vars)
		if !sameFlat(y, want) {
			t.Fatalf("what %s answered hangs on what was handed in: %v", what, y)
		}
	}
}

func TestItIsDoneTheSameWayEachTime(t *testing.T) {
	for what, by := range faces() {
		want := by(some())
		for range 50 {
			by(list(num(1, 2), add(2, 1, 1), ret(2)))
			wantFlat(t, what, some(), by(some()), want)
		}
	}
}

func TestListsWithoutEntriesAreTheSame(t *testing.T) {
	for what, by := range faces() {
		f := api.Flat{Code: []api.Instr{trap()}}
		wantFlat(t, what, f, by(f), f)
		f = api.Flat{Code: []api.Instr{trap()}, Secret: []bool{}, Arrays: []api.Var{}}
		wantFlat(t, what, f, by(f), f)
	}
}

// Nothing is promised of what is not right, but that no call panics.
func TestOfWhatIsNotRight(t *testing.T) {
	for _, f := range []api.Flat{
		{},
		{Code: []api.Instr{ret(0)}},
		{Code: []api.Instr{ret(-1)}, Secret: []bool{true}},
		{Code: []api.Instr{num(0, 1)}, Secret: []bool{true}},
		{Code: []api.Instr{num(0, -1), trap()}, Secret: []bool{true}},
		{Code: []api.Instr{num(math.MaxInt, 1), num(math.MinInt, 1), trap()}, Secret: []bool{true}},
		{Code: []api.Instr{in(api.OpMul, 0, math.MaxInt, math.MinInt, 0, 0), trap()}, Secret: []bool{true}},
		{Code: []api.Instr{move(1, 0), trap()}, Secret: []bool{true, false}},
		{Code: []api.Instr{jump(0)}},
		{Code: []api.Instr{jump(1)}},
		{Code: []api.Instr{jump(-1), jump(math.MaxInt), jump(math.MinInt), trap()}},
		{Code: []api.Instr{trap(), zero(0, 0), trap()}, Secret: []bool{false}},
		{Code: []api.Instr{trap(), zero(0, 9), trap()}, Secret: []bool{false}},
		{Code: []api.Instr{load(0, 0), trap()}, Secret: []bool{false}},
		{Code: []api.Instr{{Op: api.OpOn}, {Op: api.OpBack}, {Op: math.MinInt}, {Op: math.MaxInt}}, Secret: []bool{true}},
		{Code: []api.Instr{trap()}, Params: math.MaxInt},
		{Code: []api.Instr{trap()}, Params: -1},
		{Code: slices.Repeat([]api.Instr{trap()}, api.MaxCode+1)},
	} {
		was := clone(f)
		for what, by := range faces() {
			if y := by(f); !reflect.DeepEqual(y, api.Flat{}) || !sameFlat(f, was) {
				t.Errorf("%s of %s, which is not right, is %s", what, brief(was), brief(y))
			}
		}
	}
}

// As many as may be are folded soon, even where each one leads elsewhere with thousands of places that are still read.
func TestOfAsManyAsMayBe(t *testing.T) {
	const half = api.MaxCode / 2
	f := api.Flat{Secret: make([]bool, 3*half+1), Params: 1}
	for at := range half {
		f.Code = append(f.Code, zero(0, at+1))
	}
	for k := range half - 1 {
		f.Code = append(f.Code, in(api.OpSel, 0, 3*k+1, 3*k+2, 3*k+3, 0))
	}
	f.Code = append(f.Code, ret(0))
	last := append(slices.Clone(f.Code[:half]), f.Code[api.MaxCode-2:]...)
	wantCode(t, "Numbers", f, f.Code...)
	wantCode(t, "Used", f, last...)

	// Each reads what the one ahead makes, and one more: all of it stays.
	for k := range half - 1 {
		f.Code[half+k] = in(api.OpSel, 0, 0, 2*k+1, 2*k+2, 0)
	}
	wantCode(t, "Fold", f, f.Code...)

	// Each is known, and the last one alone is read.
	g := api.Flat{Code: []api.Instr{num(0, 1)}, Secret: make([]bool, api.MaxCode)}
	for k := range api.MaxCode - 2 {
		g.Code = append(g.Code, add(k+1, k, k))
	}
	g.Code = append(g.Code, ret(20))
	wantCode(t, "Fold", g, num(20, 1<<20), ret(20))
}

func TestOfManyPlaces(t *testing.T) {
	f := api.Flat{Code: []api.Instr{num(1<<22, 3), zero(0, 2), add(1<<22-1, 1<<22, 1<<22), ret(1<<22 - 1)}, Secret: make([]bool, 1<<22+1), Params: 1}
	for _, by := range faces() {
		if y := by(f); !slices.Equal(y.Code, f.Code) || len(y.Secret) != len(f.Secret) {
			t.Errorf("over many places %v is %v", f.Code, y.Code)
		}
	}
}

// given has words, and words of arrays, that hang on n.
func given(f api.Fn, n int) api.Given {
	var g api.Given
	for k := range f.Params {
		g.Words = append(g.Words, []int{n * 7 % 11, n % 3, n << 30 & api.MaxWord, api.MaxWord - n}[(n+k)%4])
	}
	for b, v := range f.Arrays {
		l := make([]int, v.Size)
		for k := range l {
			l[k] = n*1000 + b*100 + k
		}
		g.Arrays = append(g.Arrays, l)
	}
	return g
}

// Programs end folded as they do, by chapter 5, of which the flat instructions have no part.
func TestProgramsEndFoldedAsTheyDo(t *testing.T) {
	even := api.Table{Seen: [18]int{0, 0, 0, 0, 0, 0, 2, 2, 3, 3, 3, 3, 3, 7, 0, 0, 1, 1}}
	for _, s := range []string{
		"(fn ((sec a)) () (ret (* a 3)))",
		"(fn () () (ret (+ (* 3 5) (% 7 4))))",
		"(fn ((sec a) (sec b)) () (ret (+ (* (/ a b) b) (% a b))))",
		"(fn ((pub a) (sec b)) ((sec t 4) (pub u 2)) (let sec x (+ a b)) (if x ((put t 1 x) (set x 3)) ((put t 2 b))) (put u (% a 2) (+ a 1)) (ret (^ x (at t 1))))",
		"(fn ((sec k)) ((pub t 4)) (let sec x 0) (for i 4 (set x (sel (= i k) (at t i) x))) (ret x))",
		"(fn ((pub a)) ((pub t 2)) (let pub x 5) (if a ((set x (+ x x))) ((put t a x))) (let pub y (* x 2)) (if (< a 3) ((ret y)) ()) (ret (at t x)))",
		"(fn ((sec a) (sec b)) () (if (< a b) ((if (= a 1) ((set a 5)) ((set b a)))) ((set a (- a b)))) (ret (+ a b)))",
		"(fn () () (for i 3 (for j 2 (let pub x (* i j)))))",
	} {
		f, err := lang.Parse(s)
		if err != api.OK || label.Check(f) != api.OK {
			t.Fatalf("%q is no right program", s)
		}
		x, _ := lower.Lower(f)
		y, err := legal.Legal(x, even)
		if err != api.OK {
			t.Fatalf("%q is not legal: %d", s, err)
		}
		for _, z := range []api.Flat{fold.Numbers(x), fold.Used(x), fold.Fold(x), fold.Fold(y), fold.Fold(fold.Fold(y))} {
			for n := range 24 {
				g := given(f, n)
				want, _ := eval.Run(f, g)
				if got, _ := flow.Run(z, even, g); !sameEnd(got, want) {
					t.Fatalf("%q, folded, of %v, ends %v, not %v", s, g, got, want)
				}
			}
		}
	}
}
