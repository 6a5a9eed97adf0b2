package flow_test

import (
	"math"
	"reflect"
	"slices"
	"testing"

	"evenpace/api"
	"evenpace/eval"
	"evenpace/flow"
	"evenpace/label"
	"evenpace/lang"
	"evenpace/lower"
	"evenpace/table"
)

func sameEnd(a, b api.Ended) bool {
	return a.Word == b.Word && a.Trap == b.Trap && slices.EqualFunc(a.Arrays, b.Arrays, slices.Equal)
}

func sameLeaks(a, b []api.Leak) bool {
	return slices.EqualFunc(a, b, func(x, y api.Leak) bool {
		return x.At == y.At && x.Op == y.Op && slices.Equal(x.Values, y.Values)
	})
}

func wantSeen(t *testing.T, tab api.Table, i api.Instr, all bool, want ...int) {
	t.Helper()
	if got := flow.Seen(tab, i, []int{10, 11, 12, 13}, all); !slices.Equal(got, want) {
		t.Errorf("Seen of %v, by %v, all is %v, is %v, not %v", i, tab.Seen, all, got, want)
	}
}

func only(op, seen int) api.Table {
	var t api.Table
	t.Seen[op] = seen
	return t
}

// allSeen is a table by which all is seen that may be.
func allSeen() api.Table {
	return api.Table{Seen: [18]int{0, 3, 3, 3, 3, 3, 3, 3, 3, 3, 3, 3, 3, 7, 0, 1, 1, 3}}
}

func TestSeen(t *testing.T) {
	for op := api.OpAdd; op <= api.OpSame; op++ {
		i := in(op, 0, 1, 2, 3, 0)
		wantSeen(t, api.Table{}, i, false)
		wantSeen(t, only(op, api.SeenA), i, false, 11)
		wantSeen(t, only(op, api.SeenB), i, false, 12)
		wantSeen(t, only(op, api.SeenA|api.SeenB), i, false, 11, 12)
		wantSeen(t, only(op, 3), in(op, 0, 3, 3, 0, 0), false, 13, 13)
		wantSeen(t, only(op, 3), in(op, 0, 2, 1, 0, 0), false, 12, 11)
	}
	i := in(api.OpSel, 0, 3, 2, 1, 0)
	for k, want := range [][]int{{}, {13}, {12}, {13, 12}, {11}, {13, 11}, {12, 11}, {13, 12, 11}} {
		wantSeen(t, only(api.OpSel, k), i, false, want...)
	}
	wantSeen(t, only(api.OpMove, api.SeenA), in(api.OpMove, 0, 1, 2, 3, 0), false, 11)
	wantSeen(t, only(api.OpLoad, api.SeenA), in(api.OpLoad, 0, 1, 2, 3, 0), false, 11)
	for k, want := range [][]int{{}, {11}, {10}, {11, 10}} {
		wantSeen(t, only(api.OpStore, k), in(api.OpStore, 0, 1, 2, 3, 0), false, want...)
	}
	wantSeen(t, allSeen(), in(api.OpConst, 0, 1, 2, 3, 4), false)
}

func TestSeenOfAll(t *testing.T) {
	for _, tab := range []api.Table{{}, allSeen(), only(api.OpSel, 2)} {
		for op := api.OpAdd; op <= api.OpSame; op++ {
			wantSeen(t, tab, in(op, 0, 1, 2, 3, 0), true, 11, 12)
		}
		wantSeen(t, tab, in(api.OpSel, 0, 1, 2, 3, 0), true, 11, 12, 13)
		wantSeen(t, tab, in(api.OpConst, 0, 1, 2, 3, 0), true)
		wantSeen(t, tab, in(api.OpMove, 0, 1, 2, 3, 0), true, 11)
		wantSeen(t, tab, in(api.OpLoad, 0, 1, 2, 3, 0), true, 11)
		wantSeen(t, tab, in(api.OpStore, 0, 1, 2, 3, 0), true, 11, 10)
	}
}

// Of what leads on, and ends, no table tells.
func TestSeenOfOpsOfNoTable(t *testing.T) {
	for _, tab := range []api.Table{{}, allSeen()} {
		for _, all := range []bool{false, true} {
			wantSeen(t, tab, in(api.OpZero, 0, 1, 2, 3, 0), all, 11)
			for _, op := range append(noOps(), api.OpJump, api.OpRet, api.OpTrap) {
				wantSeen(t, tab, in(op, 0, 1, 2, 3, 0), all)
			}
		}
	}
}

// One op's bits tell nothing of another.
func TestSeenOfOtherOps(t *testing.T) {
	for op := api.OpAdd; op <= api.OpStore; op++ {
		tab := allSeen()
		tab.Seen[op] = 0
		wantSeen(t, tab, in(op, 0, 1, 2, 3, 0), false)
	}
}

// Fields that an op has not may be no places.
func TestSeenOfNeedlessFields(t *testing.T) {
	no := math.MaxInt
	for _, all := range []bool{false, true} {
		wantSeen(t, allSeen(), in(api.OpAdd, -1, 1, 2, no, no), all, 11, 12)
		wantSeen(t, allSeen(), in(api.OpMove, -1, 1, -1, no, no), all, 11)
		wantSeen(t, allSeen(), in(api.OpLoad, -1, 1, no, no, no), all, 11)
		wantSeen(t, allSeen(), in(api.OpStore, 3, 1, no, no, no), all, 11, 13)
		wantSeen(t, allSeen(), in(api.OpConst, -1, -1, no, no, no), all)
		wantSeen(t, allSeen(), in(api.OpZero, -1, 1, no, no, no), all, 11)
		wantSeen(t, allSeen(), in(api.OpRet, -1, no, no, no, no), all)
	}
}

func TestSeenAnswersAreTheCallers(t *testing.T) {
	v := []int{1, 2, 3, 4, 5}
	i := in(api.OpSel, 0, 0, 1, 2, 0)
	one, two := flow.Seen(allSeen(), i, v[:3], false), flow.Seen(allSeen(), i, v[:3], false)
	clear(one[:cap(one)])
	_ = append(two, 9)
	if !slices.Equal(two, []int{1, 2, 3}) || !slices.Equal(v, []int{1, 2, 3, 4, 5}) {
		t.Errorf("words are %v, and were seen as %v", v, two)
	}
	v[0] = 7
	if two[0] != 1 {
		t.Errorf("what was seen is %v then", two)
	}
}

// Of what Seen is not promised for nothing hangs on, but that it does not panic.
func TestSeenOfWhatIsNotRight(t *testing.T) {
	var tab api.Table
	for op := range tab.Seen {
		tab.Seen[op] = -1
	}
	for _, v := range [][]int{nil, {}, {1}} {
		for op := -1; op <= api.OpBack+1; op++ {
			for _, n := range []int{math.MinInt, -1, 0, 1, math.MaxInt} {
				flow.Seen(tab, in(op, n, n, n, n, n), v, false)
				flow.Seen(tab, in(op, n, n, n, n, n), v, true)
			}
		}
	}
}

func wantRun(t *testing.T, f api.Flat, tab api.Table, g api.Given, want api.Ended, seen ...api.Leak) {
	t.Helper()
	if err, at := flow.Check(f); err != api.OK {
		t.Fatalf("instructions are not right: %d, at %d", err, at)
	}
	got, leaks := flow.Run(f, tab, g)
	if !sameEnd(got, want) || !sameLeaks(leaks, seen) {
		t.Errorf("Run of %v, of %v, is %v, %v, not %v, %v", f.Code, g, got, leaks, want, seen)
	}
}

func leak(at, op int, values ...int) api.Leak {
	return api.Leak{At: at, Op: op, Values: values}
}

func TestRunOfSomeOfEverything(t *testing.T) {
	g := api.Given{Words: []int{0, 5}, Arrays: [][]int{{7}, {8, 9}}}
	end := api.Ended{Word: 40, Arrays: [][]int{{7}, {8, 40}}}
	wantRun(t, some(), api.Table{}, g, end, leak(0, api.OpConst), leak(1, api.OpLoad), leak(2, api.OpMul), leak(3, api.OpStore), leak(4, api.OpZero, 0), leak(6, api.OpRet))
	wantRun(t, some(), allSeen(), g, end, leak(0, api.OpConst), leak(1, api.OpLoad, 0), leak(2, api.OpMul, 8, 5), leak(3, api.OpStore, 1, 40), leak(4, api.OpZero, 0), leak(6, api.OpRet))
	tab, err := table.Parse("mul 2\nstore 1\n")
	if err != api.OK {
		t.Fatal(err)
	}
	g.Words[0] = 1
	wantRun(t, some(), tab, g, api.Ended{Trap: true, Arrays: [][]int{{7}, {8, 45}}}, leak(0, api.OpConst), leak(1, api.OpLoad), leak(2, api.OpMul, 5), leak(3, api.OpStore, 1), leak(4, api.OpZero, 1), leak(5, api.OpTrap))
}

// One instruction of two words, with each op.
func TestRunOfTwo(t *testing.T) {
	for op, want := range map[int]int{
		api.OpAdd: 7 + 3, api.OpSub: 7 - 3, api.OpAnd: 7 & 3, api.OpOr: 7 | 3, api.OpXor: 7 ^ 3, api.OpShl: 7 << 3,
		api.OpShr: 7 >> 3, api.OpMul: 7 * 3, api.OpDiv: 7 / 3, api.OpRem: 7 % 3, api.OpLess: 0, api.OpSame: 0,
	} {
		f := api.Flat{Code: []api.Instr{in(op, 2, 0, 1, 0, 0), ret(2)}, Secret: make([]bool, 3), Params: 2}
		wantRun(t, f, only(op, 3), api.Given{Words: []int{7, 3}}, api.Ended{Word: want}, leak(0, op, 7, 3), leak(1, api.OpRet))
	}
	for _, c := range [][4]int{
		{api.OpSub, 0, 1, api.MaxWord}, {api.OpDiv, 7, 0, api.MaxWord}, {api.OpRem, 7, 0, 7}, {api.OpAdd, api.MaxWord, 1, 0},
		{api.OpShl, 1, 33, 2}, {api.OpMul, 1 << 16, 1 << 16, 0}, {api.OpLess, 2, 3, 1}, {api.OpSame, 3, 3, 1},
	} {
		f := api.Flat{Code: []api.Instr{in(c[0], 0, 0, 1, 0, 0), ret(0)}, Secret: make([]bool, 2), Params: 2}
		wantRun(t, f, api.Table{}, api.Given{Words: c[1:3]}, api.Ended{Word: c[3]}, leak(0, c[0]), leak(1, api.OpRet))
	}
}

func TestRunOfSelConstMove(t *testing.T) {
	sel := api.Flat{Code: []api.Instr{in(api.OpSel, 0, 0, 1, 2, 9), ret(0)}, Secret: make([]bool, 3), Params: 3}
	wantRun(t, sel, only(api.OpSel, 5), api.Given{Words: []int{4, 5, 6}}, api.Ended{Word: 5}, leak(0, api.OpSel, 4, 6), leak(1, api.OpRet))
	wantRun(t, sel, only(api.OpSel, 2), api.Given{Words: []int{0, 5, 6}}, api.Ended{Word: 6}, leak(0, api.OpSel, 5), leak(1, api.OpRet))
	no := math.MinInt
	number := api.Flat{Code: []api.Instr{in(api.OpConst, 0, no, no, no, api.MaxWord), in(api.OpMove, 1, 0, no, no, no), in(api.OpRet, no, 1, no, no, no)}, Secret: make([]bool, 2)}
	wantRun(t, number, only(api.OpMove, 1), api.Given{}, api.Ended{Word: api.MaxWord}, leak(0, api.OpConst), leak(1, api.OpMove, api.MaxWord), leak(2, api.OpRet))
}

// Places are 0 at first, but for what is given.
func TestRunOfPlacesThatNothingMade(t *testing.T) {
	for p, want := range []int{8, 9, 0, 0} {
		f := api.Flat{Code: []api.Instr{ret(p)}, Secret: make([]bool, 4), Params: 2}
		wantRun(t, f, allSeen(), api.Given{Words: []int{8, 9}}, api.Ended{Word: want}, leak(0, api.OpRet))
	}
}

// What is seen is what was there ahead of doing it.
func TestRunSeesWhatWasThereAhead(t *testing.T) {
	f := api.Flat{Code: []api.Instr{in(api.OpAdd, 0, 0, 0, 0, 0), in(api.OpAdd, 0, 0, 0, 0, 0), in(api.OpLoad, 0, 0, 0, 0, 0), ret(0)}, Secret: []bool{false}, Params: 1, Arrays: []api.Var{{Size: 5}}}
	g := api.Given{Words: []int{1}, Arrays: [][]int{{0, 0, 0, 0, 6}}}
	wantRun(t, f, allSeen(), g, api.Ended{Word: 6, Arrays: g.Arrays}, leak(0, api.OpAdd, 1, 1), leak(1, api.OpAdd, 2, 2), leak(2, api.OpLoad, 4), leak(3, api.OpRet))
}

func TestRunOfArrays(t *testing.T) {
	load := api.Flat{Code: []api.Instr{in(api.OpConst, 1, 0, 0, 0, 77), in(api.OpLoad, 1, 0, 1, 0, 0), ret(1)}, Secret: make([]bool, 2), Params: 1, Arrays: []api.Var{{Size: 3}, {Size: 2}, {}}}
	store := flow.Own(load)
	store.Code[1] = in(api.OpStore, 1, 0, 1, 0, 0)
	for at, want := range map[int]int{0: 5, 1: 6, 2: 0, 3: 0, 1 << 31: 0, api.MaxWord: 0} {
		g := api.Given{Words: []int{at}, Arrays: [][]int{{1, 2, 3}, {5, 6}, {}}}
		wantRun(t, load, allSeen(), g, api.Ended{Word: want, Arrays: g.Arrays}, leak(0, api.OpConst), leak(1, api.OpLoad, at), leak(2, api.OpRet))
		end := api.Ended{Word: 77, Arrays: [][]int{{1, 2, 3}, {5, 6}, {}}}
		if at < 2 {
			end.Arrays[1][at] = 77
		}
		wantRun(t, store, allSeen(), g, end, leak(0, api.OpConst), leak(1, api.OpStore, at, 77), leak(2, api.OpRet))
	}
	none := flow.Own(load)
	none.Code[1].B = 2
	g := api.Given{Words: []int{0}, Arrays: [][]int{{1, 2, 3}, {5, 6}, nil}}
	wantRun(t, none, api.Table{}, g, api.Ended{Arrays: g.Arrays}, leak(0, api.OpConst), leak(1, api.OpLoad), leak(2, api.OpRet))
}

func TestRunOfJumps(t *testing.T) {
	f := api.Flat{Code: []api.Instr{in(api.OpZero, 0, 0, 0, 0, 3), in(api.OpConst, 0, 0, 0, 0, 9), in(api.OpJump, 0, 0, 0, 0, 4), in(api.OpConst, 0, 0, 0, 0, 8), ret(0), trap()}, Secret: []bool{false}, Params: 1}
	wantRun(t, f, api.Table{}, api.Given{Words: []int{0}}, api.Ended{Word: 8}, leak(0, api.OpZero, 0), leak(3, api.OpConst), leak(4, api.OpRet))
	wantRun(t, f, api.Table{}, api.Given{Words: []int{api.MaxWord}}, api.Ended{Word: 9}, leak(0, api.OpZero, api.MaxWord), leak(1, api.OpConst), leak(2, api.OpJump), leak(4, api.OpRet))
}

func TestRunOfTraps(t *testing.T) {
	f := api.Flat{Code: []api.Instr{in(api.OpStore, 0, 1, 0, 0, 0), in(api.OpTrap, 0, 0, 0, 0, 7), ret(0)}, Secret: make([]bool, 2), Params: 2, Arrays: []api.Var{{Size: 2}}}
	g := api.Given{Words: []int{4, 1}, Arrays: [][]int{{5, 6}}}
	wantRun(t, f, allSeen(), g, api.Ended{Trap: true, Arrays: [][]int{{5, 4}}}, leak(0, api.OpStore, 1, 4), leak(1, api.OpTrap))
	wantRun(t, api.Flat{Code: []api.Instr{trap()}}, allSeen(), api.Given{}, api.Ended{Trap: true}, leak(0, api.OpTrap))
}

func TestRunOfAsManyAsMayBe(t *testing.T) {
	code := slices.Repeat([]api.Instr{in(api.OpAdd, 0, 0, 1, 0, 0)}, api.MaxCode)
	code[api.MaxCode-1] = ret(0)
	got, leaks := flow.Run(api.Flat{Code: code, Secret: make([]bool, 2), Params: 2}, only(api.OpAdd, 1), api.Given{Words: []int{0, 1}})
	if got.Word != api.MaxCode-1 || len(leaks) != api.MaxCode || leaks[api.MaxCode-2].Values[0] != api.MaxCode-2 {
		t.Errorf("it ends %v, and %d are seen", got, len(leaks))
	}
}

// texts are right programs, with places, traps, loops, and secrets that lead.
func texts() []string {
	return []string{
		"(fn ((pub a) (sec b)) ((sec t 4) (pub u 2)) (let sec x (+ a b)) (if x ((put t 1 x) (set x 3)) ((put t 2 b))) (put u (% a 2) (+ a 1)) (ret (^ x (at t 1))))",
		"(fn ((pub a)) ((pub t 2)) (if (< a 2) ((put t a 7)) ((ret (at t a)))) (ret (at t 1)))",
		"(fn ((sec k)) ((pub t 4)) (let sec x 0) (for i 4 (set x (sel (= i k) (at t i) x))) (ret x))",
		"(fn ((sec a) (pub b)) () (let sec x (>> a b)) (set x (<< x a)) (if (< x 9) ((if b ((set x (| x 256))) ())) ()) (ret (& x 65535)))",
		"(fn ((sec a) (sec x)) () (if a ((set x 2)) ()) (ret x))",
		"(fn ((sec a) (sec b)) () (ret (- (* a b) (/ a b))))",
		"(fn () () (for i 3 (for j 2 (let pub x (* i j)))))",
		"(fn () ())",
	}
}

// given makes what fits a program, of its own for each n.
func given(f api.Fn, n int) api.Given {
	var g api.Given
	for i := range f.Params {
		g.Words = append(g.Words, (n*7+i*3)%11)
	}
	for i, v := range f.Arrays {
		l := make([]int, v.Size)
		for k := range l {
			l[k] = n*1000 + i*100 + k
		}
		g.Arrays = append(g.Arrays, l)
	}
	return g
}

func TestProgramsEndFlatAsTheyDo(t *testing.T) {
	for _, s := range texts() {
		f, err := lang.Parse(s)
		if err != api.OK || label.Check(f) != api.OK {
			t.Fatalf("%q is no right program: %d", s, err)
		}
		x, err := lower.Lower(f)
		if err != api.OK {
			t.Fatal(err)
		}
		wantCheck(t, x, api.OK, -1)
		for n := range 24 {
			g := given(f, n)
			want, _ := eval.Run(f, g)
			for _, tab := range []api.Table{{}, allSeen()} {
				if got, _ := flow.Run(x, tab, g); !sameEnd(got, want) {
					t.Errorf("%q, of %v, ends flat with %v, not %v", s, g, got, want)
				}
			}
		}
	}
}

func TestRunOnlyReads(t *testing.T) {
	f, tab := some(), allSeen()
	back := []int{8, 9, 99, 98}
	words := []int{0, 5, 97}
	g := api.Given{Words: words[:2], Arrays: [][]int{{7}, back[:2]}}
	one, leaks := flow.Run(f, tab, g)
	if !reflect.DeepEqual(f, some()) || tab != allSeen() || !slices.Equal(words, []int{0, 5, 97}) || !slices.Equal(back, []int{8, 9, 99, 98}) {
		t.Fatalf("what was handed in is %v, %v, %v, %v then", f, tab, words, back)
	}
	two, again := flow.Run(f, tab, g)
	for _, l := range one.Arrays {
		clear(l[:cap(l)])
	}
	for _, l := range leaks {
		clear(l.Values[:cap(l.Values)])
	}
	clear(leaks[:cap(leaks)])
	clear(f.Code)
	clear(words)
	clear(back)
	end, seen := flow.Run(some(), tab, api.Given{Words: []int{0, 5}, Arrays: [][]int{{7}, {8, 9}}})
	if !sameEnd(two, end) || !sameLeaks(again, seen) {
		t.Errorf("an answer hangs on another one, or on what was handed in: %v, %v", two, again)
	}
}

// No two lists of one answer share memory, not even by their spare room.
func TestRunAnswersShareNothing(t *testing.T) {
	f := api.Flat{Code: []api.Instr{in(api.OpAdd, 0, 0, 0, 0, 0), in(api.OpMove, 0, 0, 0, 0, 0), in(api.OpZero, 0, 0, 0, 0, 3), ret(0)}, Secret: []bool{false}, Params: 1, Arrays: []api.Var{{Size: 1}, {Size: 1}}}
	end, leaks := flow.Run(f, allSeen(), api.Given{Words: []int{3}, Arrays: [][]int{{1}, {2}}})
	for i := range leaks {
		leaks[i].Values = append(leaks[i].Values, 90+i)
	}
	for b := range end.Arrays {
		end.Arrays[b] = append(end.Arrays[b], 80+b)
	}
	want := []api.Leak{leak(0, api.OpAdd, 3, 3, 90), leak(1, api.OpMove, 6, 91), leak(2, api.OpZero, 6, 92), leak(3, api.OpRet, 93)}
	if !sameLeaks(leaks, want) || !slices.EqualFunc(end.Arrays, [][]int{{1, 80}, {2, 81}}, slices.Equal) {
		t.Errorf("they are %v, %v", leaks, end.Arrays)
	}
}

func TestListsWithoutEntriesAreTheSame(t *testing.T) {
	f := api.Flat{Code: []api.Instr{in(api.OpJump, 0, 0, 0, 0, 1), trap()}}
	x := flow.Own(f)
	x.Secret, x.Arrays = []bool{}, []api.Var{}
	end := api.Ended{Trap: true}
	for _, f := range []api.Flat{f, x} {
		for _, g := range []api.Given{{}, {Words: []int{}, Arrays: [][]int{}}} {
			wantRun(t, f, api.Table{}, g, end, leak(0, api.OpJump), leak(1, api.OpTrap))
		}
	}
	f.Arrays = []api.Var{{}}
	for _, l := range [][]int{nil, {}} {
		wantRun(t, f, api.Table{}, api.Given{Arrays: [][]int{l}}, api.Ended{Trap: true, Arrays: [][]int{{}}}, leak(0, api.OpJump), leak(1, api.OpTrap))
	}
}

// Of what is not right, or does not fit, nothing is promised, but that it ends, and does not panic.
func TestRunOfWhatIsNotRight(t *testing.T) {
	fit := api.Given{Words: []int{1}, Arrays: [][]int{{5, 6}, {7, 8}}}
	for op := -1; op <= api.OpBack+1; op++ {
		for _, n := range []int{math.MinInt, -1, 0, 1, 2, 3, 4, math.MaxInt} {
			i := in(op, n, n, n, n, n)
			flow.Run(over(i), allSeen(), fit)
			flow.Run(over(trap(), i), allSeen(), fit)
			flow.Run(over(i, i, trap()), allSeen(), fit)
		}
	}
	flow.Run(api.Flat{}, api.Table{}, api.Given{})
	flow.Run(over(in(api.OpJump, 0, 0, 0, 0, 0), trap()), api.Table{}, fit)
	for _, params := range []int{math.MinInt, -1, 5, math.MaxInt} {
		f := over(trap())
		f.Params = params
		flow.Run(f, api.Table{}, fit)
	}
	all := over(in(api.OpLoad, sec, pub, secArray, 0, 0), in(api.OpStore, sec, pub, secArray, 0, 0), ret(sec))
	for _, g := range []api.Given{
		{}, {Words: fit.Words}, {Arrays: fit.Arrays}, {Words: []int{1, 2, 3, 4, 5, 6}, Arrays: fit.Arrays},
		{Words: []int{-1}, Arrays: fit.Arrays}, {Words: []int{math.MinInt}, Arrays: fit.Arrays},
		{Words: fit.Words, Arrays: [][]int{nil, nil}}, {Words: fit.Words, Arrays: [][]int{{5, 6}, {7, -8}}},
	} {
		flow.Run(all, api.Table{}, g)
	}
	var wrong api.Table
	for op := range wrong.Seen {
		wrong.Seen[op] = math.MinInt + 7
	}
	flow.Run(all, wrong, fit)
}
