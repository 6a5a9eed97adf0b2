package mach_test

import (
	"math"
	"reflect"
	"runtime"
	"slices"
	"testing"

	"evenpace/api"
	"evenpace/eval"
	"evenpace/mach"
)

func sameEnd(a, b api.Ended) bool {
	return a.Word == b.Word && a.Trap == b.Trap && slices.EqualFunc(a.Arrays, b.Arrays, slices.Equal)
}

func sameLeaks(a, b []api.Leak) bool {
	return slices.EqualFunc(a, b, func(x, y api.Leak) bool {
		return x.At == y.At && x.Op == y.Op && slices.Equal(x.Values, y.Values)
	})
}

func sameRan(a, b api.Ran) bool {
	return sameEnd(a.Ended, b.Ended) && a.Err == b.Err && a.Steps == b.Steps && a.Mode == b.Mode && sameLeaks(a.Leaks, b.Leaks)
}

func wantRan(t *testing.T, got, want api.Ran) {
	t.Helper()
	if !sameRan(got, want) {
		t.Errorf("it ran %v, not %v", got, want)
	}
}

func leak(at, op int, values ...int) api.Leak {
	return api.Leak{At: at, Op: op, Values: values}
}

func ret(a int) api.Instr { return in(api.OpRet, 0, a, 0, 0) }

func trap() api.Instr { return in(api.OpTrap, 0, 0, 0, 0) }

func on(d int) api.Instr { return in(api.OpOn, d, 0, 0, 0) }

func back(a int) api.Instr { return in(api.OpBack, 0, a, 0, 0) }

func num(d, n int) api.Instr { return imm(api.OpConst, d, 0, n) }

// one is a table by which something is seen of one op alone.
func one(op, seen int) api.Table {
	var t api.Table
	t.Seen[op] = seen
	return t
}

// allSeen is a table by which all is seen that may be.
func allSeen() api.Table {
	return api.Table{Seen: [18]int{0, 3, 3, 3, 3, 3, 3, 3, 3, 3, 3, 3, 3, 7, 0, 1, 1, 3}}
}

// words is an image that is given words, and these.
func words(l []api.Instr, given ...int) (api.Image, api.Given) {
	return api.Image{Bytes: bytesOf(l...), Params: len(given)}, api.Given{Words: given}
}

// wantMode has l, of words, run with enough steps, from a mode, end in one, with a word, and be seen so.
func wantMode(t *testing.T, l []api.Instr, given []int, tab api.Table, mode, then, word int, seen ...api.Leak) {
	t.Helper()
	m, g := words(l, given...)
	got := mach.Run(m, tab, g, mode, 1000)
	want := api.Ran{Ended: api.Ended{Word: word}, Steps: len(seen), Mode: then, Leaks: seen}
	if !sameRan(got, want) {
		t.Errorf("%v, of %v, in mode %d, ran %v, not %v", l, given, mode, got, want)
	}
}

func TestOneInstructionOneStepOneLeak(t *testing.T) {
	for mode := range 2 {
		for _, most := range []int{1, 2, 24000, math.MaxInt} {
			m, g := words([]api.Instr{ret(1)}, 5)
			wantRan(t, mach.Run(m, allSeen(), g, mode, most), api.Ran{Ended: api.Ended{Word: 5}, Steps: 1, Mode: mode, Leaks: []api.Leak{leak(0, api.OpRet)}})
			m, g = words([]api.Instr{trap()}, 5)
			wantRan(t, mach.Run(m, allSeen(), g, mode, most), api.Ran{Ended: api.Ended{Trap: true}, Steps: 1, Mode: mode, Leaks: []api.Leak{leak(0, api.OpTrap)}})
		}
	}
}

// Words are from slot 1 on; all other slots are noughts, slot 0 as well.
func TestSlotsAtFirst(t *testing.T) {
	given := []int{11, 12, 13}
	for slot := range api.MaxSlots {
		want := 0
		if slot >= 1 && slot <= 3 {
			want = 10 + slot
		}
		wantMode(t, []api.Instr{ret(slot)}, given, api.Table{}, 0, 0, want, leak(0, api.OpRet))
		wantMode(t, []api.Instr{in(api.OpMove, 5, slot, 0, 0), ret(5)}, given, api.Table{}, 0, 0, want, leak(0, api.OpMove, want), leak(1, api.OpRet))
	}
	most := make([]int, api.MaxSlots-1)
	for k := range most {
		most[k] = k + 1
	}
	for slot := range api.MaxSlots {
		wantMode(t, []api.Instr{ret(slot)}, most, api.Table{}, 1, 1, slot, leak(0, api.OpRet))
	}
}

func TestRunOfTwo(t *testing.T) {
	for op, want := range map[int]int{
		api.OpAdd: 10, api.OpSub: 4, api.OpAnd: 3, api.OpOr: 7, api.OpXor: 4, api.OpShl: 56, api.OpShr: 0,
		api.OpMul: 21, api.OpDiv: 2, api.OpRem: 1, api.OpLess: 0, api.OpSame: 0,
	} {
		l := []api.Instr{in(op, 119, 1, 2, 0), ret(119)}
		wantMode(t, l, []int{7, 3}, api.Table{}, 0, 0, want, leak(0, op, 7, 3), leak(1, api.OpRet))
		for seen, values := range [][]int{{}, {7}, {3}, {7, 3}} {
			wantMode(t, l, []int{7, 3}, one(op, seen), 1, 1, want, leak(0, op, values...), leak(1, api.OpRet))
		}
	}
	wantMode(t, []api.Instr{in(api.OpSub, 1, 1, 2, 0), ret(1)}, []int{0, 1}, api.Table{}, 1, 1, api.MaxWord, leak(0, api.OpSub), leak(1, api.OpRet))
	wantMode(t, []api.Instr{in(api.OpDiv, 1, 1, 2, 0), ret(1)}, []int{7, 0}, api.Table{}, 1, 1, api.MaxWord, leak(0, api.OpDiv), leak(1, api.OpRet))
}

func TestRunOfSelConstMove(t *testing.T) {
	l := []api.Instr{in(api.OpSel, 4, 1, 2, 3), ret(4)}
	for seen, values := range [][]int{{}, {9}, {5}, {9, 5}, {6}, {9, 6}, {5, 6}, {9, 5, 6}} {
		wantMode(t, l, []int{9, 5, 6}, one(api.OpSel, seen), 1, 1, 5, leak(0, api.OpSel, values...), leak(1, api.OpRet))
		wantMode(t, l, []int{9, 5, 6}, one(api.OpSel, seen), 0, 0, 5, leak(0, api.OpSel, 9, 5, 6), leak(1, api.OpRet))
	}
	wantMode(t, l, []int{0, 5, 6}, api.Table{}, 0, 0, 6, leak(0, api.OpSel, 0, 5, 6), leak(1, api.OpRet))
	for mode := range 2 {
		wantMode(t, []api.Instr{num(3, api.MaxWord), ret(3)}, nil, allSeen(), mode, mode, api.MaxWord, leak(0, api.OpConst), leak(1, api.OpRet))
		wantMode(t, []api.Instr{in(api.OpMove, 3, 1, 0, 0), ret(3)}, []int{8}, one(api.OpMove, 1), mode, mode, 8, leak(0, api.OpMove, 8), leak(1, api.OpRet))
	}
	wantMode(t, []api.Instr{in(api.OpMove, 3, 1, 0, 0), ret(3)}, []int{8}, api.Table{}, 1, 1, 8, leak(0, api.OpMove), leak(1, api.OpRet))
}

// What is seen is what was there ahead of doing it.
func TestWhatIsSeenWasThereAhead(t *testing.T) {
	l := []api.Instr{in(api.OpAdd, 1, 1, 1, 0), in(api.OpAdd, 1, 1, 1, 0), imm(api.OpZero, 0, 1, 0), ret(1)}
	for mode := range 2 {
		wantMode(t, l, []int{3}, allSeen(), mode, mode, 12, leak(0, api.OpAdd, 3, 3), leak(1, api.OpAdd, 6, 6), leak(2, api.OpZero, 12), leak(3, api.OpRet))
	}
}

// OpOn has D be the mode that was; it is on from the next step on.
func TestTheModeIsOn(t *testing.T) {
	l := []api.Instr{in(api.OpMul, 2, 1, 1, 0), on(5), in(api.OpMul, 2, 1, 1, 0), ret(5)}
	wantMode(t, l, []int{3}, one(api.OpMul, 2), 0, 1, 0, leak(0, api.OpMul, 3, 3), leak(1, api.OpOn), leak(2, api.OpMul, 3), leak(3, api.OpRet))
	wantMode(t, l, []int{3}, one(api.OpMul, 2), 1, 1, 1, leak(0, api.OpMul, 3), leak(1, api.OpOn), leak(2, api.OpMul, 3), leak(3, api.OpRet))
	// Twice on, it was on.
	twice := []api.Instr{on(5), on(5), ret(5)}
	for mode := range 2 {
		wantMode(t, twice, nil, allSeen(), mode, 1, 1, leak(0, api.OpOn), leak(1, api.OpOn), leak(2, api.OpRet))
	}
	// D may be what was given.
	wantMode(t, []api.Instr{on(1), ret(1)}, []int{77}, allSeen(), 0, 1, 0, leak(0, api.OpOn), leak(1, api.OpRet))
}

// OpBack has the mode be A's lowest bit; A stays, and D is none of it.
func TestTheModeIsBack(t *testing.T) {
	for n, then := range map[int]int{0: 0, 1: 1, 2: 0, 3: 1, 1 << 31: 0, api.MaxWord: 1, api.MaxWord - 1: 0} {
		for mode := range 2 {
			values := []int{n}
			if then == 0 {
				values = []int{n, n}
			}
			l := []api.Instr{in(api.OpBack, 2, 1, 9, 0), in(api.OpMul, 3, 1, 1, 0), in(api.OpAdd, 1, 1, 2, 0), ret(1)}
			tab := one(api.OpMul, 1)
			tab.Seen[api.OpAdd] = 3
			wantMode(t, l, []int{n}, tab, mode, then, n, leak(0, api.OpBack), leak(1, api.OpMul, values...), leak(2, api.OpAdd, n, 0), leak(3, api.OpRet))
		}
	}
}

// On, and back: it ends in the mode in which it began.
func TestOnAndBack(t *testing.T) {
	l := []api.Instr{on(5), in(api.OpMul, 2, 1, 1, 0), back(5), in(api.OpMul, 3, 2, 1, 0), ret(3)}
	wantMode(t, l, []int{3}, one(api.OpMul, 1), 0, 0, 27, leak(0, api.OpOn), leak(1, api.OpMul, 3), leak(2, api.OpBack), leak(3, api.OpMul, 9, 3), leak(4, api.OpRet))
	wantMode(t, l, []int{3}, one(api.OpMul, 1), 1, 1, 27, leak(0, api.OpOn), leak(1, api.OpMul, 3), leak(2, api.OpBack), leak(3, api.OpMul, 9), leak(4, api.OpRet))
}

// Jumps of a machine may lead back, to what is next, and to themselves.
func TestRunOfJumps(t *testing.T) {
	l := []api.Instr{num(3, 1), in(api.OpSub, 1, 1, 3, 0), imm(api.OpZero, 0, 1, 4), imm(api.OpJump, 0, 0, 1), ret(3)}
	wantMode(t, l, []int{3}, api.Table{}, 1, 1, 1,
		leak(0, api.OpConst), leak(1, api.OpSub), leak(2, api.OpZero, 2), leak(3, api.OpJump),
		leak(1, api.OpSub), leak(2, api.OpZero, 1), leak(3, api.OpJump),
		leak(1, api.OpSub), leak(2, api.OpZero, 0), leak(4, api.OpRet))
	next := []api.Instr{imm(api.OpZero, 0, 1, 1), imm(api.OpJump, 0, 0, 2), ret(1)}
	for n := range 2 {
		for mode := range 2 {
			wantMode(t, next, []int{n}, api.Table{}, mode, mode, n, leak(0, api.OpZero, n), leak(1, api.OpJump), leak(2, api.OpRet))
		}
	}
}

func wantErr(t *testing.T, m api.Image, g api.Given, mode, most int, want api.Errno) {
	t.Helper()
	if got := mach.Run(m, allSeen(), g, mode, most); !sameRan(got, api.Ran{Err: want}) {
		t.Errorf("Run of %v, of %v, in mode %d, with %d steps, is %v, not %d alone", m, g, mode, most, got, want)
	}
}

func TestRunOfWhatDoesNotFit(t *testing.T) {
	m := api.Image{Bytes: bytesOf(ret(1)), Params: 2, Arrays: []api.Var{{Size: 2}}}
	fit := api.Given{Words: []int{1, 2}, Arrays: [][]int{{3, 4}}}
	for _, mode := range []int{math.MinInt, -2, -1, 2, 3, 256, 1 << 32, math.MaxInt} {
		for _, most := range []int{-1, 0, 9} {
			wantErr(t, m, fit, mode, most, api.ErrMany)
		}
	}
	for _, g := range []api.Given{
		{}, {Words: fit.Words}, {Arrays: fit.Arrays}, {Words: []int{1}, Arrays: fit.Arrays}, {Words: []int{1, 2, 3}, Arrays: fit.Arrays},
		{Words: fit.Words, Arrays: [][]int{{3, 4}, {5}}}, {Words: fit.Words, Arrays: [][]int{{3, 4}, nil}}, {Words: fit.Words, Arrays: [][]int{}},
	} {
		for mode := range 2 {
			for _, most := range []int{-1, 0, 9} {
				wantErr(t, m, g, mode, most, api.ErrMany)
			}
		}
	}
	for _, n := range []int{math.MinInt, -1, 0, 1, 3, 119, 120, math.MaxInt} {
		x := m
		x.Params = n
		wantErr(t, x, fit, 0, 9, api.ErrMany)
	}
}

func TestAsManyWordsAsMayBe(t *testing.T) {
	for _, n := range []int{118, 119, 120, 121, 4000} {
		m, g := words([]api.Instr{ret(118)}, slices.Repeat([]int{6}, n)...)
		if n >= api.MaxSlots {
			wantErr(t, m, g, 1, 9, api.ErrMany)
			wantErr(t, m, g, 1, 0, api.ErrMany)
			continue
		}
		wantRan(t, mach.Run(m, api.Table{}, g, 1, 9), api.Ran{Ended: api.Ended{Word: 6}, Steps: 1, Mode: 1, Leaks: []api.Leak{leak(0, api.OpRet)}})
	}
}

func TestRunOfTooManySteps(t *testing.T) {
	l := []api.Instr{on(5), num(2, 9), back(5), ret(2)}
	m, g := words(l)
	for mode := range 2 {
		for _, most := range []int{math.MinInt, -1, 0, 1, 2, 3} {
			wantErr(t, m, g, mode, most, api.ErrFuel)
		}
		for _, most := range []int{4, 5, 1 << 31, math.MaxInt} {
			want := api.Ran{Ended: api.Ended{Word: 9}, Steps: 4, Mode: mode, Leaks: []api.Leak{leak(0, api.OpOn), leak(1, api.OpConst), leak(2, api.OpBack), leak(3, api.OpRet)}}
			wantRan(t, mach.Run(m, api.Table{}, g, mode, most), want)
		}
	}
	for _, l := range [][]api.Instr{{imm(api.OpJump, 0, 0, 0)}, {on(1), imm(api.OpZero, 0, 0, 0)}, {imm(api.OpZero, 0, 3, 1), imm(api.OpJump, 0, 0, 0)}} {
		m, g := words(l)
		for _, most := range []int{-1, 0, 1, 2, 3, 24000} {
			wantErr(t, m, g, 0, most, api.ErrFuel)
		}
	}
}

// Where there is no instruction it ends, but that most steps were done is told first.
func TestRunPastTheLast(t *testing.T) {
	for _, l := range [][]api.Instr{
		{num(1, 1)}, {on(1)}, {back(1)}, {imm(api.OpJump, 0, 0, 1)}, {imm(api.OpJump, 0, 0, 2)}, {imm(api.OpJump, 0, 0, api.MaxWord)},
		{imm(api.OpZero, 0, 1, 1)}, {imm(api.OpZero, 0, 1, 5), ret(1)}, {imm(api.OpZero, 0, 1, api.MaxWord), trap()},
		{imm(api.OpJump, 0, 0, 1<<31), trap()},
	} {
		m, g := words(l)
		for mode := range 2 {
			wantErr(t, m, g, mode, 0, api.ErrFuel)
			wantErr(t, m, g, mode, 1, api.ErrFuel)
			wantErr(t, m, g, mode, 2, api.ErrEnd)
			wantErr(t, m, g, mode, math.MaxInt, api.ErrEnd)
		}
	}
	// It counts only, if it comes to that.
	m, g := words([]api.Instr{imm(api.OpZero, 0, 1, 9), ret(1)}, 4)
	wantRan(t, mach.Run(m, api.Table{}, g, 1, 2), api.Ran{Ended: api.Ended{Word: 4}, Steps: 2, Mode: 1, Leaks: []api.Leak{leak(0, api.OpZero, 4), leak(1, api.OpRet)}})
}

// What does not end takes no room for what would be seen of it.
func TestWhatDoesNotEndTakesNoRoom(t *testing.T) {
	m, g := words([]api.Instr{in(api.OpAdd, 1, 1, 1, 0), imm(api.OpJump, 0, 0, 0)}, 1)
	var was, then runtime.MemStats
	runtime.ReadMemStats(&was)
	wantErr(t, m, g, 0, 1<<22, api.ErrFuel)
	runtime.ReadMemStats(&then)
	if n := then.TotalAlloc - was.TotalAlloc; n > 1<<20 {
		t.Errorf("it takes %d bytes", n)
	}
}

// Arrays are as long as they were given, whatever Size says.
func TestRunOfArrays(t *testing.T) {
	m := api.Image{Params: 1, Arrays: []api.Var{{Size: 3}, {Size: 1}, {Size: -1}}}
	for at, want := range map[int]int{0: 5, 1: 6, 2: 0, 3: 0, 1 << 31: 0, api.MaxWord: 0} {
		g := api.Given{Words: []int{at}, Arrays: [][]int{{1}, {5, 6}, {}}}
		for mode := range 2 {
			m.Bytes = bytesOf(num(2, 77), in(api.OpLoad, 2, 1, 1, 0), ret(2))
			wantRan(t, mach.Run(m, allSeen(), g, mode, 9), api.Ran{Ended: api.Ended{Word: want, Arrays: g.Arrays}, Steps: 3, Mode: mode, Leaks: []api.Leak{leak(0, api.OpConst), leak(1, api.OpLoad, at), leak(2, api.OpRet)}})
			m.Bytes = bytesOf(num(2, 77), in(api.OpStore, 2, 1, 1, 0), trap())
			end := api.Ended{Trap: true, Arrays: eval.Arrays(g.Arrays)}
			if at < 2 {
				end.Arrays[1][at] = 77
			}
			wantRan(t, mach.Run(m, allSeen(), g, mode, 9), api.Ran{Ended: end, Steps: 3, Mode: mode, Leaks: []api.Leak{leak(0, api.OpConst), leak(1, api.OpStore, at, 77), leak(2, api.OpTrap)}})
		}
		m.Bytes = bytesOf(in(api.OpLoad, 2, 1, 2, 0), in(api.OpStore, 1, 1, 2, 0), ret(2))
		wantRan(t, mach.Run(m, api.Table{}, g, 1, 9), api.Ran{Ended: api.Ended{Arrays: g.Arrays}, Steps: 3, Mode: 1, Leaks: []api.Leak{leak(0, api.OpLoad), leak(1, api.OpStore), leak(2, api.OpRet)}})
	}
	for seen, values := range [][]int{{}, {1}, {8}, {1, 8}} {
		m.Bytes = bytesOf(num(2, 8), in(api.OpStore, 2, 1, 0, 0), trap())
		g := api.Given{Words: []int{1}, Arrays: [][]int{{0, 0}, nil, nil}}
		wantRan(t, mach.Run(m, one(api.OpStore, seen), g, 1, 9), api.Ran{Ended: api.Ended{Trap: true, Arrays: [][]int{{0, 8}, {}, {}}}, Steps: 3, Mode: 1, Leaks: []api.Leak{leak(0, api.OpConst), leak(1, api.OpStore, values...), leak(2, api.OpTrap)}})
	}
}

// Fields that an op has not mean nothing.
func TestFieldsThatMeanNothing(t *testing.T) {
	l := []api.Instr{
		{Op: api.OpConst, D: 2, A: 255, B: 255, Imm: 6},
		{Op: api.OpAdd, D: 3, A: 1, B: 2, Imm: 99},
		{Op: api.OpMove, D: 4, A: 3, B: 255, Imm: 99},
		{Op: api.OpOn, D: 5, A: 255, B: 255, Imm: 1},
		{Op: api.OpJump, D: 4, A: 255, B: 255, Imm: 5},
		{Op: api.OpZero, D: 4, A: 1, B: 255, Imm: 0},
		{Op: api.OpBack, D: 4, A: 5, B: 255, Imm: 1},
		{Op: api.OpRet, D: 2, A: 4, B: 255, Imm: 99},
	}
	wantMode(t, l, []int{1}, api.Table{}, 0, 0, 7, leak(0, api.OpConst), leak(1, api.OpAdd, 1, 6), leak(2, api.OpMove, 7), leak(3, api.OpOn), leak(4, api.OpJump), leak(5, api.OpZero, 1), leak(6, api.OpBack), leak(7, api.OpRet))
	m, g := words([]api.Instr{{Op: api.OpTrap, D: 1, A: 255, B: 255, Imm: 7}}, 1)
	wantRan(t, mach.Run(m, allSeen(), g, 0, 1), api.Ran{Ended: api.Ended{Trap: true}, Steps: 1, Leaks: []api.Leak{leak(0, api.OpTrap)}})
}

func everything() (api.Image, api.Given) {
	m := api.Image{Params: 1, Arrays: []api.Var{{Name: "t", Size: 2}, {Name: "u", Size: 1}}}
	m.Bytes = bytesOf(in(api.OpAdd, 1, 1, 1, 0), on(5), in(api.OpStore, 1, 0, 0, 0), in(api.OpLoad, 2, 0, 1, 0), in(api.OpStore, 2, 0, 1, 0), imm(api.OpZero, 0, 9, 6), back(5), ret(1))
	return m, api.Given{Words: []int{3}, Arrays: [][]int{{7, 8}, {9}}}
}

func TestRunOnlyReads(t *testing.T) {
	m, g := everything()
	want := mach.Run(m, allSeen(), g, 0, 20)
	lists := []int{3, 97, 7, 8, 96, 9, 95}
	vars := append(slices.Clip(m.Arrays), api.Var{Name: "v"})
	b := append(slices.Clip(m.Bytes), 255)
	x := api.Image{Bytes: b[:len(m.Bytes)], Params: 1, Arrays: vars[:2]}
	h := api.Given{Words: lists[:1], Arrays: [][]int{lists[2:4], lists[5:6]}}
	got := mach.Run(x, allSeen(), h, 0, 20)
	again := mach.Run(x, allSeen(), h, 0, 20)
	if !slices.Equal(lists, []int{3, 97, 7, 8, 96, 9, 95}) || !slices.Equal(b[:len(m.Bytes)], m.Bytes) || b[len(m.Bytes)] != 255 || !slices.Equal(vars, append(slices.Clip(m.Arrays), api.Var{Name: "v"})) {
		t.Fatalf("what was handed in is %v, %v, %v then", lists, b, vars)
	}
	clear(lists)
	clear(b)
	clear(vars)
	for _, l := range again.Ended.Arrays {
		clear(l[:cap(l)])
	}
	for _, l := range again.Leaks {
		clear(l.Values[:cap(l.Values)])
	}
	clear(again.Leaks[:cap(again.Leaks)])
	if !sameRan(got, want) || got.Ended.Word != 6 || got.Steps != 8 {
		t.Errorf("an answer hangs on another one, or on what was handed in: %v, not %v", got, want)
	}
}

// No two lists of one answer share memory, not even by their spare room.
func TestAnswersShareNothing(t *testing.T) {
	m, g := everything()
	r, want := mach.Run(m, allSeen(), g, 0, 20), mach.Run(m, allSeen(), g, 0, 20)
	for k := range r.Leaks {
		r.Leaks[k].Values = append(r.Leaks[k].Values, 90+k)
	}
	for b := range r.Ended.Arrays {
		r.Ended.Arrays[b] = append(r.Ended.Arrays[b], 80+b)
	}
	for k, l := range r.Leaks {
		if n := len(l.Values) - 1; !slices.Equal(l.Values[:n], want.Leaks[k].Values) || l.Values[n] != 90+k {
			t.Errorf("leak %d is %v", k, l)
		}
	}
	if !reflect.DeepEqual(r.Ended.Arrays, [][]int{{6, 8, 80}, {9, 81}}) {
		t.Errorf("arrays are %v", r.Ended.Arrays)
	}
}

func TestNilAndEmptyAreTheSame(t *testing.T) {
	want := api.Ran{Ended: api.Ended{Trap: true}, Steps: 1, Leaks: []api.Leak{leak(0, api.OpTrap)}}
	for _, vars := range [][]api.Var{nil, {}} {
		for _, g := range []api.Given{{}, {Words: []int{}, Arrays: [][]int{}}} {
			wantRan(t, mach.Run(api.Image{Bytes: bytesOf(trap()), Arrays: vars}, api.Table{}, g, 0, 1), want)
		}
	}
	want.Ended.Arrays = [][]int{{}}
	for _, l := range [][]int{nil, {}} {
		wantRan(t, mach.Run(image(1, trap()), api.Table{}, api.Given{Arrays: [][]int{l}}, 0, 1), want)
	}
}

// Of what is no word, and no right table, nothing is promised, but that it ends, and does not panic.
func TestRunOfWhatIsNotRight(t *testing.T) {
	var wrong api.Table
	for op := range wrong.Seen {
		wrong.Seen[op] = math.MinInt + 7
	}
	for _, n := range []int{math.MinInt, -1 << 32, -1, 1 << 32, math.MaxInt} {
		g := api.Given{Words: []int{n, n}, Arrays: [][]int{{n, n}}}
		for op := api.OpAdd; op <= api.OpBack; op++ {
			m := api.Image{Bytes: bytesOf(in(op, 1, 2, 0, 1), imm(api.OpZero, 0, 2, 0), in(op, 2, 1, 0, 2), ret(1)), Params: 2, Arrays: []api.Var{{Size: n}}}
			for _, tab := range []api.Table{{}, allSeen(), wrong} {
				for mode := range 2 {
					if r := mach.Run(m, tab, g, mode, 50); r.Mode != 0 && r.Mode != 1 {
						t.Errorf("it ends in mode %d", r.Mode)
					}
				}
			}
		}
	}
}
