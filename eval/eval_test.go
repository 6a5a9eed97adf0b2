package eval_test

import (
	"math"
	"reflect"
	"slices"
	"testing"

	"evenpace/api"
	"evenpace/eval"
	"evenpace/label"
	"evenpace/lang"
)

func read(t *testing.T, s string) api.Fn {
	t.Helper()
	f, err := lang.Parse(s)
	if err != api.OK {
		t.Fatalf("%q is no program: %d", s, err)
	}
	if err := label.Check(f); err != api.OK {
		t.Fatalf("%q is not right: %d", s, err)
	}
	return f
}

// came is a program's text, what it is given, and how it ends.
type came struct {
	text   string
	words  []int
	arrays [][]int
	want   api.Ended
}

// same holds two ends against each other; lists without entries are the same as none.
func same(a, b api.Ended) bool {
	return a.Word == b.Word && a.Trap == b.Trap && slices.EqualFunc(a.Arrays, b.Arrays, slices.Equal[[]int])
}

func wantAll(t *testing.T, l []came) {
	t.Helper()
	for _, x := range l {
		got, err := eval.Run(read(t, x.text), api.Given{Words: x.words, Arrays: x.arrays})
		if err != api.OK || !same(got, x.want) {
			t.Errorf("Run of %q, of %v %v, is %v, %d, not %v", x.text, x.words, x.arrays, got, err, x.want)
		}
	}
}

func ends(n int) api.Ended {
	return api.Ended{Word: n}
}

func with(n int, arrays ...[]int) api.Ended {
	return api.Ended{Word: n, Arrays: arrays}
}

func trap(arrays ...[]int) api.Ended {
	return api.Ended{Trap: true, Arrays: arrays}
}

func TestArraysCopies(t *testing.T) {
	l := [][]int{{1, 2}, nil, {}, {-1, 1 << 40}}
	got := eval.Arrays(l)
	if !slices.EqualFunc(got, l, slices.Equal[[]int]) {
		t.Fatalf("Arrays of %v is %v", l, got)
	}
	got[0][0], got[3][1] = 7, 8
	got[1] = append(got[1], 9)
	if !reflect.DeepEqual(l, [][]int{{1, 2}, nil, {}, {-1, 1 << 40}}) {
		t.Errorf("what was copied is %v then", l)
	}
	for _, none := range [][][]int{nil, {}} {
		if got := eval.Arrays(none); len(got) != 0 {
			t.Errorf("Arrays of nothing is %v", got)
		}
	}
}

// The spare room behind a list is not looked at, and that of a copy belongs to nobody else.
func TestArraysHaveTheirOwnRoom(t *testing.T) {
	all := []int{1, 2, 3, 4, 5, 6}
	l := [][]int{all[:2], all[2:4]}
	got := eval.Arrays(l[:1:1])
	got = append(got, eval.Arrays(l[1:])...)
	for i := range got {
		room := got[i][:cap(got[i])]
		for k := range room {
			room[k] = 100 + i
		}
	}
	if !slices.Equal(all, []int{1, 2, 3, 4, 5, 6}) || got[0][0] != 100 || got[1][0] != 101 {
		t.Errorf("a copy shares its room: %v, %v", all, got)
	}
	both := eval.Arrays(l)
	_ = append(both[0], 50, 51, 52)
	if !slices.Equal(both[1], []int{3, 4}) {
		t.Errorf("behind the first one stands the second one: %v", both)
	}
}

func TestFits(t *testing.T) {
	f := read(t, "(fn ((pub a) (sec b)) ((pub t 2) (sec u 1)))")
	for _, x := range []struct {
		words  []int
		arrays [][]int
		want   api.Errno
	}{
		{[]int{0, api.MaxWord}, [][]int{{0, api.MaxWord}, {5}}, api.OK},
		{[]int{1}, [][]int{{0, 1}, {5}}, api.ErrMany},
		{[]int{1, 2, 3}, [][]int{{0, 1}, {5}}, api.ErrMany},
		{nil, [][]int{{0, 1}, {5}}, api.ErrMany},
		{[]int{1, 2}, [][]int{{0, 1}}, api.ErrMany},
		{[]int{1, 2}, [][]int{{0, 1}, {5}, {}}, api.ErrMany},
		{[]int{1, 2}, nil, api.ErrMany},
		{[]int{1, 2}, [][]int{{0}, {5}}, api.ErrMany},
		{[]int{1, 2}, [][]int{{0, 1, 2}, {5}}, api.ErrMany},
		{[]int{1, 2}, [][]int{{0, 1}, nil}, api.ErrMany},
		{[]int{1, 2}, [][]int{{5}, {0, 1}}, api.ErrMany},
		{[]int{-1, 2}, [][]int{{0, 1}, {5}}, api.ErrRange},
		{[]int{1, api.MaxWord + 1}, [][]int{{0, 1}, {5}}, api.ErrRange},
		{[]int{1, math.MinInt}, [][]int{{0, 1}, {5}}, api.ErrRange},
		{[]int{1, 2}, [][]int{{0, -1}, {5}}, api.ErrRange},
		{[]int{1, 2}, [][]int{{0, 1}, {math.MaxInt}}, api.ErrRange},
		// How many there are counts ahead of what they are, wherever.
		{[]int{-1, 2}, [][]int{{0, 1}, {}}, api.ErrMany},
		{[]int{-1, 2, 3}, [][]int{{-1, 1}, {5}}, api.ErrMany},
		{[]int{1, 2}, [][]int{{-1, 1}, {5, 6}}, api.ErrMany},
	} {
		g := api.Given{Words: x.words, Arrays: x.arrays}
		if got := eval.Fits(f, g); got != x.want {
			t.Errorf("Fits of %v is %d, not %d", g, got, x.want)
		}
		got, err := eval.Run(f, g)
		if err != x.want {
			t.Errorf("Run of %v tells %d, not %d", g, err, x.want)
		}
		if err != api.OK && !reflect.DeepEqual(got, api.Ended{}) {
			t.Errorf("beside %d Run answers %v", err, got)
		}
	}
}

func TestFitsOfNothing(t *testing.T) {
	for _, f := range []api.Fn{{}, {Params: []api.Var{}, Arrays: []api.Var{}}} {
		for _, g := range []api.Given{{}, {Words: []int{}, Arrays: [][]int{}}} {
			if err := eval.Fits(f, g); err != api.OK {
				t.Errorf("Fits of nothing is %d", err)
			}
			if got, err := eval.Run(f, g); err != api.OK || !same(got, ends(0)) {
				t.Errorf("Run of nothing is %v, %d", got, err)
			}
		}
	}
	f := api.Fn{Arrays: []api.Var{{Name: "t"}}}
	if err := eval.Fits(f, api.Given{Arrays: [][]int{nil}}); err != api.OK {
		t.Errorf("Fits of an array without words is %d", err)
	}
	f.Arrays[0].Size = -1
	if err := eval.Fits(f, api.Given{Arrays: [][]int{nil}}); err != api.ErrMany {
		t.Errorf("Fits of an array that is less than nothing is %d", err)
	}
}

func TestRunOfExpressions(t *testing.T) {
	const most = api.MaxWord
	for _, x := range []struct {
		expr       string
		a, b, want int
	}{
		{"0", 1, 2, 0}, {"4294967295", 1, 2, most}, {"a", 1, 2, 1}, {"b", 1, 2, 2},
		{"(+ a b)", most, 2, 1}, {"(- a b)", 0, 1, most}, {"(- a b)", 5, 3, 2},
		{"(& a b)", 12, 10, 8}, {"(| a b)", 12, 10, 14}, {"(^ a b)", 12, 10, 6},
		{"(<< a b)", 1, 33, 2}, {"(<< a b)", 3, 31, 1 << 31}, {"(>> a b)", most, 31, 1}, {"(>> a b)", 8, 34, 2},
		{"(* a b)", most, most, 1}, {"(/ a b)", 7, 2, 3}, {"(/ a b)", 7, 0, most}, {"(% a b)", 7, 4, 3}, {"(% a b)", 7, 0, 7},
		{"(< a b)", 1, 2, 1}, {"(< a b)", 2, 1, 0}, {"(< a b)", most, 0, 0}, {"(= a b)", 3, 3, 1}, {"(= a b)", 3, 4, 0},
		{"(sel a b 9)", 1, 5, 5}, {"(sel a b 9)", 0, 5, 9}, {"(sel a b 9)", most, 5, 5},
		{"(- (* a a) (+ b (sel (< a b) 1 2)))", 3, 4, 4},
	} {
		f := read(t, "(fn ((pub a) (sec b)) () (ret "+x.expr+"))")
		got, err := eval.Run(f, api.Given{Words: []int{x.a, x.b}})
		if err != api.OK || !same(got, ends(x.want)) {
			t.Errorf("%s of %d and %d is %v, %d, not %d", x.expr, x.a, x.b, got, err, x.want)
		}
	}
}

func TestRunOfNames(t *testing.T) {
	wantAll(t, []came{
		{"(fn ((pub a)) () (let pub x (+ a 1)) (ret x))", []int{4}, nil, ends(5)},
		{"(fn ((pub a)) () (let pub x a) (set a 9) (ret x))", []int{4}, nil, ends(4)},
		{"(fn ((pub a)) () (set a (+ a 1)) (set a (* a a)) (ret a))", []int{4}, nil, ends(25)},
		{"(fn ((pub a) (pub b)) () (let pub x a) (set a b) (set b x) (ret (- a b)))", []int{4, 6}, nil, ends(2)},
		{"(fn ((pub a)) () (let sec x 1) (if a ((set x 2) (let pub y 7) (set x (+ x y))) ((let pub y 20) (set x (- x y)))) (let pub y 100) (ret (+ x y)))", []int{1}, nil, ends(109)},
		{"(fn ((pub a)) () (let sec x 1) (if a ((set x 2) (let pub y 7) (set x (+ x y))) ((let pub y 20) (set x (+ x y)))) (let pub y 100) (ret (+ x y)))", []int{0}, nil, ends(121)},
		// A let in a loop is made anew in each round.
		{"(fn () () (let pub s 0) (for i 4 (let pub x i) (set x (* x 10)) (set s (+ s x))) (ret s))", nil, nil, ends(60)},
	})
}

func TestRunOfIf(t *testing.T) {
	const text = "(fn ((sec a)) ((sec t 2)) (if a ((put t 0 5)) ((put t 1 6))) (ret 3))"
	wantAll(t, []came{
		{text, []int{0}, [][]int{{1, 2}}, with(3, []int{1, 6})},
		{text, []int{1}, [][]int{{1, 2}}, with(3, []int{5, 2})},
		{text, []int{api.MaxWord}, [][]int{{1, 2}}, with(3, []int{5, 2})},
		{"(fn ((pub a)) () (if a () ((ret 1))) (ret 2))", []int{0}, nil, ends(1)},
		{"(fn ((pub a)) () (if a () ((ret 1))) (ret 2))", []int{7}, nil, ends(2)},
		// The expression is asked once, ahead of what it leads to.
		{"(fn ((pub a)) () (if a ((set a 0)) ((set a 1))) (ret a))", []int{5}, nil, ends(0)},
		{"(fn ((pub a)) () (if a ((set a 0)) ((set a 1))) (ret a))", []int{0}, nil, ends(1)},
	})
}

func TestRunOfLoops(t *testing.T) {
	wantAll(t, []came{
		{"(fn () () (let pub s 0) (for i 0 (set s 1)) (ret s))", nil, nil, ends(0)},
		{"(fn () () (let pub s 9) (for i 1 (set s i)) (ret s))", nil, nil, ends(0)},
		{"(fn () () (let pub s 0) (for i 8 (set s (+ (* s 10) i))) (ret s))", nil, nil, ends(1234567)},
		{"(fn () () (let pub s 0) (for i 3 (for j 2 (set s (+ (* s 100) (+ (* i 10) j))))) (ret s))", nil, nil, ends(110112021)},
		{"(fn () () (for i 8 (if (= i 5) ((ret i)) ())) (ret 99))", nil, nil, ends(5)},
		{"(fn () () (for i 8 (for j 8 (if (= j 3) ((ret (+ i j))) ()))) (ret 99))", nil, nil, ends(3)},
		{"(fn () ((pub t 8)) (for i 8 (put t i (* i i))))", nil, [][]int{{9, 9, 9, 9, 9, 9, 9, 9}}, with(0, []int{0, 1, 4, 9, 16, 25, 36, 49})},
		{"(fn () () (let pub s 0) (for i 3 (set s (+ s i))) (for i 2 (set s (+ s 10))) (for i 8) (ret s))", nil, nil, ends(23)},
	})
}

func TestRunOfRet(t *testing.T) {
	wantAll(t, []came{
		{"(fn ((pub a)) ())", []int{7}, nil, ends(0)},
		{"(fn ((pub a)) () (set a 3))", []int{7}, nil, ends(0)},
		{"(fn () ((pub t 1)) (put t 0 1) (ret 2) (put t 0 3) (ret 4))", nil, [][]int{{9}}, with(2, []int{1})},
		{"(fn () ((pub t 1)) (if 1 ((ret 2) (put t 0 3)) ()) (put t 0 4))", nil, [][]int{{9}}, with(2, []int{9})},
		{"(fn () ((pub t 1)) (ret (at t 0)))", nil, [][]int{{api.MaxWord}}, with(api.MaxWord, []int{api.MaxWord})},
		// What would trap is not done any more.
		{"(fn () ((pub t 1)) (ret 2) (put t 1 3) (ret (at t 5)))", nil, [][]int{{9}}, with(2, []int{9})},
	})
}

func TestRunOfArrays(t *testing.T) {
	two := [][]int{{10, 11}, {20, 21, 22}}
	const head = "(fn ((pub a)) ((pub t 2) (sec u 3)) "
	wantAll(t, []came{
		{head + "(ret (at t a)))", []int{1}, two, with(11, two...)},
		{head + "(ret (at u 2)))", []int{1}, two, with(22, two...)},
		{head + "(put u a (at t 0)) (put t a a) (ret (+ (at u 1) (at t 1))))", []int{1}, two, with(11, []int{10, 1}, []int{20, 10, 22})},
		{head + "(put t (- (at t 0) 10) (at t 1)))", []int{0}, two, with(0, []int{11, 11}, two[1])},
		{head + "(put t 0 1) (put t (at t 0) 2))", []int{0}, two, with(0, []int{1, 2}, two[1])},
	})
}

func TestRunTraps(t *testing.T) {
	two := [][]int{{10, 11}, {20, 21, 22}}
	const head = "(fn ((pub a)) ((pub t 2) (sec u 3)) "
	const put = "(put t 0 5) "
	changed := trap([]int{5, 11}, two[1])
	wantAll(t, []came{
		{head + "(ret (at t 2)))", []int{0}, two, trap(two...)},
		{head + "(ret (at t a)))", []int{2}, two, trap(two...)},
		{head + "(ret (at t a)))", []int{api.MaxWord}, two, trap(two...)},
		{head + "(ret (at u 3)))", []int{0}, two, trap(two...)},
		{head + "(put t a 1) (ret 1))", []int{2}, two, trap(two...)},
		{head + "(put u 3 1) (ret 1))", []int{0}, two, trap(two...)},
		{head + "(put t (- 0 1) 1) (ret 1))", []int{0}, two, trap(two...)},
		// Arrays are as they were then, and nothing is done behind it.
		{head + put + "(put t a 1) (put t 1 6) (ret 1))", []int{2}, two, changed},
		{head + put + "(let pub x (at t a)) (put t 1 6) (ret 1))", []int{2}, two, changed},
		{head + put + "(set a (at t a)) (put t 1 6) (ret 1))", []int{2}, two, changed},
		{head + put + "(if (at t a) ((put t 1 6)) ((put t 1 7))) (ret 1))", []int{2}, two, changed},
		{head + put + "(if 1 ((put t a 6)) ()) (ret 1))", []int{2}, two, changed},
		{head + put + "(put t 1 (at t a)) (ret 1))", []int{2}, two, changed},
		{head + put + "(put t (at t a) 6) (ret 1))", []int{2}, two, changed},
		{head + put + "(put t a (at t a)) (ret 1))", []int{2}, two, changed},
		{head + "(for i 8 (put t i i)) (ret 1))", []int{0}, two, trap([]int{0, 1}, two[1])},
		{head + put + "(for i 8 (put u i (at t i))) (ret 1))", []int{0}, two, trap([]int{5, 11}, []int{5, 11, 22})},
		// All parts of an expression are worked out, whichever is chosen.
		{head + "(ret (+ 1 (at t a))))", []int{2}, two, trap(two...)},
		{head + "(ret (* 0 (at t a))))", []int{2}, two, trap(two...)},
		{head + "(ret (sel 1 2 (at t a))))", []int{2}, two, trap(two...)},
		{head + "(ret (sel 0 (at t a) 2)))", []int{2}, two, trap(two...)},
		{head + "(ret (sel (at t a) 1 2)))", []int{2}, two, trap(two...)},
		{head + "(ret (at u (* 0 (at t a)))))", []int{2}, two, trap(two...)},
		// What is not done does not trap.
		{head + "(if a ((ret 3)) ((ret (at t 9)))))", []int{1}, two, with(3, two...)},
		{head + "(for i 0 (put t 9 1)) (ret 3))", []int{1}, two, with(3, two...)},
	})
}

func TestRunReadsOnlyAndKeepsNothing(t *testing.T) {
	f := read(t, "(fn ((pub a)) ((pub t 2) (sec u 1)) (set a (+ a 1)) (put t 0 a) (put u 0 (at t 1)) (let pub x 3) (for i 2 (let pub y i)) (ret x))")
	text := lang.Print(f)
	words := []int{4, -1, -1}
	room := []int{1, 2, 3, -7, -7}
	g := api.Given{Words: words[:1], Arrays: [][]int{room[:2], room[2:3]}}
	want := with(3, []int{5, 2}, []int{2})
	first, err := eval.Run(f, g)
	if err != api.OK || !same(first, want) {
		t.Fatalf("Run is %v, %d, not %v", first, err, want)
	}
	first.Arrays[0][0], first.Arrays[1][0] = 77, 78
	first.Arrays[0] = append(first.Arrays[0], 79)
	if !slices.Equal(words, []int{4, -1, -1}) || !slices.Equal(room, []int{1, 2, 3, -7, -7}) {
		t.Errorf("what was given is %v, %v then", words, room)
	}
	if lang.Print(f) != text {
		t.Errorf("%q became %q", text, lang.Print(f))
	}
	if again, err := eval.Run(f, g); err != api.OK || !same(again, want) {
		t.Errorf("again Run is %v, %d, not %v", again, err, want)
	}
}

// As much as a right program may do is done.
func TestRunOfMuchWork(t *testing.T) {
	const one = " (set s (+ s 1))"
	const text = "(fn () () (let pub s 0) (for i 8 (for j 8" + one + one + one + one + ")) (for i 4 (for j 4" + one + ")) (for i 8" + one + ")" + one + one
	wantAll(t, []came{{text + one + " (ret s))", nil, nil, ends(256 + 16 + 8 + 3)}})
	// A right program has no more: it was all that there may be.
	f, _ := lang.Parse(text + one + one + " (ret s))")
	if err := label.Check(f); err != api.ErrMuch {
		t.Errorf("Check of one more is %d", err)
	}
}

// What a kind has not means nothing, whatever stands there.
func TestRunOfNeedlessFields(t *testing.T) {
	bad := []api.Stmt{{Kind: api.StRet, Args: []api.Expr{{Kind: api.ExNum, N: 66}}}}
	num := func(n int) api.Expr {
		return api.Expr{Kind: api.ExNum, N: n, Name: "t", Args: []api.Expr{{Kind: api.ExAt, Name: "t", Args: []api.Expr{{Kind: api.ExNum, N: 9}}}}}
	}
	name := api.Expr{Kind: api.ExName, N: 7, Name: "a", Args: num(1).Args}
	f := api.Fn{
		Params: []api.Var{{Name: "a", Size: 99}},
		Arrays: []api.Var{{Name: "t", Size: 1}},
		Body: []api.Stmt{
			{Kind: api.StFor, Name: "i", N: 2, Args: num(1).Args, Else: bad, Then: []api.Stmt{
				{Kind: api.StSet, N: 9, Name: "a", Secret: true, Args: []api.Expr{{Kind: api.ExTwo, N: api.OpAdd, Name: "t", Args: []api.Expr{name, num(3)}}}, Then: bad, Else: bad},
			}},
			{Kind: api.StIf, N: 5, Name: "x", Args: []api.Expr{num(0), num(1).Args[0]}, Then: bad},
			{Kind: api.StPut, N: 5, Name: "t", Args: []api.Expr{num(0), {Kind: api.ExSel, N: 9, Name: "t", Args: []api.Expr{num(1), name, num(2)}}}, Then: bad, Else: bad},
			{Kind: api.StRet, N: 5, Name: "x", Args: []api.Expr{{Kind: api.ExAt, N: 9, Name: "t", Args: []api.Expr{num(0)}}}, Then: bad, Else: bad},
		},
	}
	got, err := eval.Run(f, api.Given{Words: []int{4}, Arrays: [][]int{{0}}})
	if want := with(10, []int{10}); err != api.OK || !same(got, want) {
		t.Errorf("Run is %v, %d, not %v", got, err, want)
	}
}

// Of wrong programs nothing is promised; but Run does not panic, and it ends.
func TestRunOfWhatNoTextSays(t *testing.T) {
	deep := api.Expr{Kind: api.ExNum, N: -3}
	for range 1 << 12 {
		deep = api.Expr{Kind: api.ExTwo, N: api.OpAdd, Args: []api.Expr{deep, {Kind: api.ExNum}}}
	}
	g := api.Given{Words: []int{1}, Arrays: [][]int{{1, 2}, {}}}
	parts := [][]api.Expr{nil, {{Kind: 9}}, {deep}, {{Kind: api.ExNum, N: math.MinInt}}, {{Kind: api.ExAt, Name: "t"}}, {{Kind: api.ExAt, Name: "none"}}, {{Kind: api.ExName}, {Kind: api.ExSel}, {}}, {{Kind: api.ExTwo, N: 99}, deep}}
	for kind := -1; kind <= 8; kind++ {
		for _, name := range []string{"t", "a", "none", ""} {
			for _, args := range parts {
				s := api.Stmt{Kind: kind, N: math.MaxInt, Name: name, Args: args}
				outer := api.Stmt{Kind: api.StFor, Name: "j", N: math.MaxInt, Then: []api.Stmt{s}}
				f := api.Fn{Params: []api.Var{{Name: "a"}}, Arrays: []api.Var{{Name: "t", Size: 2}, {Name: "t"}}, Body: []api.Stmt{s, outer, outer}}
				first, err := eval.Run(f, g)
				again, errAgain := eval.Run(f, g)
				if err != errAgain || !reflect.DeepEqual(first, again) {
					t.Errorf("kind %d, %q: first %v, %d, then %v, %d", kind, name, first, err, again, errAgain)
				}
			}
		}
	}
}

func TestExamples(t *testing.T) {
	// 5. At place 2 of two words there is nothing: it traps.
	wantAll(t, []came{{"(fn () ((pub t 2)) (ret (at t 2)))", nil, [][]int{{1, 2}}, trap([]int{1, 2})}})
	// 6. A secret leads to `(set x 2)`, or not.
	for a, want := range []int{1, 2, 2} {
		text := "(fn ((sec a)) () (let sec x 1) (if a ((set x 2)) ()) (ret x))"
		wantAll(t, []came{{text, []int{a}, nil, ends(want)}})
	}
	// 7. A secret times itself.
	for a := range 5 {
		wantAll(t, []came{{"(fn ((sec a)) () (ret (* a a)))", []int{a}, nil, ends(a * a)}})
	}
}
