package lower_test

import (
	"math"
	"reflect"
	"slices"
	"strings"
	"testing"

	"evenpace/api"
	"evenpace/eval"
	"evenpace/label"
	"evenpace/lang"
	"evenpace/lower"
)

func read(t *testing.T, s string) api.Fn {
	t.Helper()
	f, err := lang.Parse(s)
	if err != api.OK {
		t.Fatalf("%q is no program: %d", s, err)
	}
	if err := label.Check(f); err != api.OK {
		t.Fatalf("%q is not right: %d", s, err)
	}
	return f
}

// flat is f, laid flat, that is as it must be, whatever is given.
func flat(t *testing.T, f api.Fn) api.Flat {
	t.Helper()
	x, err := lower.Lower(f)
	if err != api.OK {
		t.Fatalf("Lower of %q is %d", lang.Print(f), err)
	}
	if why := wrong(x); why != "" {
		t.Fatalf("Lower of %q is %v: %s", lang.Print(f), x.Code, why)
	}
	if x.Params != len(f.Params) || !slices.Equal(x.Arrays, f.Arrays) {
		t.Fatalf("Lower of %q has %d parameters, and arrays %v", lang.Print(f), x.Params, x.Arrays)
	}
	for i, v := range f.Params {
		if x.Secret[i] != v.Secret {
			t.Fatalf("Lower of %q: of parameter %d Secret is %v", lang.Print(f), i, x.Secret[i])
		}
	}
	return x
}

// same holds two ends against each other; lists without entries are the same as none.
func same(a, b api.Ended) bool {
	return a.Word == b.Word && a.Trap == b.Trap && slices.EqualFunc(a.Arrays, b.Arrays, slices.Equal[[]int])
}

// came is a program's text, what it is given, and how it ends. What is wanted is written out, so that no fault of chapter 5 is shared.
type came struct {
	text   string
	words  []int
	arrays [][]int
	want   api.Ended
}

func wantAll(t *testing.T, l []came) {
	t.Helper()
	for _, x := range l {
		f := read(t, x.text)
		g := api.Given{Words: x.words, Arrays: x.arrays}
		if got, _ := flatRun(flat(t, f), g); !same(got, x.want) {
			t.Errorf("flat, %q, of %v %v, ends %v, not %v", x.text, x.words, x.arrays, got, x.want)
		}
		if by, err := eval.Run(f, g); err != api.OK || !same(by, x.want) {
			t.Errorf("%q, of %v %v, ends %v, %d, not %v", x.text, x.words, x.arrays, by, err, x.want)
		}
	}
}

func ends(n int, arrays ...[]int) api.Ended {
	return api.Ended{Word: n, Arrays: arrays}
}

func trap(arrays ...[]int) api.Ended {
	return api.Ended{Trap: true, Arrays: arrays}
}

func TestLowerOfExpressions(t *testing.T) {
	const two = "(fn ((sec a) (pub b)) () (ret "
	const three = "(fn ((sec a) (pub b) (sec c)) () (ret "
	wantAll(t, []came{
		{two + "7))", []int{1, 2}, nil, ends(7)},
		{two + "4294967295))", []int{1, 2}, nil, ends(api.MaxWord)},
		{two + "a))", []int{1, 2}, nil, ends(1)},
		{two + "b))", []int{1, 2}, nil, ends(2)},
		{two + "(+ a b)))", []int{api.MaxWord, 2}, nil, ends(1)},
		{two + "(- a b)))", []int{0, 1}, nil, ends(api.MaxWord)},
		{two + "(- b a)))", []int{1, 3}, nil, ends(2)},
		{two + "(& a b)))", []int{12, 10}, nil, ends(8)},
		{two + "(| a b)))", []int{12, 10}, nil, ends(14)},
		{two + "(^ a b)))", []int{12, 10}, nil, ends(6)},
		{two + "(<< a b)))", []int{3, 33}, nil, ends(6)},
		{two + "(>> a b)))", []int{12, 2}, nil, ends(3)},
		{two + "(* a b)))", []int{1 << 31, 3}, nil, ends(1 << 31)},
		{two + "(/ a b)))", []int{7, 0}, nil, ends(api.MaxWord)},
		{two + "(/ a b)))", []int{7, 2}, nil, ends(3)},
		{two + "(% a b)))", []int{7, 0}, nil, ends(7)},
		{two + "(% a b)))", []int{7, 4}, nil, ends(3)},
		{two + "(< a b)))", []int{1, 2}, nil, ends(1)},
		{two + "(< a b)))", []int{2, 2}, nil, ends(0)},
		{two + "(= a b)))", []int{2, 2}, nil, ends(1)},
		{two + "(- (* a 10) (- b (+ 1 a)))))", []int{5, 20}, nil, ends(36)},
		{three + "(sel a b c)))", []int{9, 2, 3}, nil, ends(2)},
		{three + "(sel a b c)))", []int{0, 2, 3}, nil, ends(3)},
		{three + "(sel (- a 1) (sel b 5 6) (sel c 7 8))))", []int{1, 0, 0}, nil, ends(8)},
		{three + "(sel (- a 1) (sel b 5 6) (sel c 7 8))))", []int{0, 0, 0}, nil, ends(6)},
	})
}

func TestLowerOfStatements(t *testing.T) {
	const head = "(fn ((pub a) (sec b)) ((pub t 2) (sec u 3)) "
	t0 := [][]int{{10, 11}, {20, 21, 22}}
	as := func(n int) api.Ended { return ends(n, t0...) }
	wantAll(t, []came{
		{"(fn () ())", nil, nil, ends(0)},
		{"(fn () () (for i 0 (ret 1)) (for i 8))", nil, nil, ends(0)},
		{head + "(let pub x a) (set a 9) (ret x))", []int{1, 2}, t0, as(1)},
		{head + "(let sec x b) (set x (+ x x)) (set x (- 1 x)) (ret x))", []int{1, 2}, t0, as(api.MaxWord - 2)},
		{head + "(set b a) (set a 7) (ret (- b a)))", []int{9, 2}, t0, as(2)},
		{head + "(let sec x 1) (set x (sel x (sel b x 5) x)) (ret x))", []int{1, 0}, t0, as(5)},
		{head + "(ret (+ (at t 1) (at u a))))", []int{2, 0}, t0, as(33)},
		{head + "(put t a 5) (put u (at t 1) b) (ret a))", []int{0, 8}, [][]int{{1, 2}, {3, 4, 5}}, ends(0, []int{5, 2}, []int{3, 4, 8})},
		{head + "(put t 1 (at t 0)) (put t 0 (+ (at t 1) 1)))", []int{0, 0}, t0, ends(0, []int{11, 10}, t0[1])},
		{head + "(ret 1) (ret 2))", []int{0, 0}, t0, as(1)},
		{head + "(ret 1) (put t 9 2))", []int{0, 0}, t0, as(1)},
		{head + "(for i 3 (put u i (* i a))) (ret 5))", []int{7, 0}, t0, ends(5, t0[0], []int{0, 7, 14})},
		{head + "(let sec x 0) (for i 8 (for j 8 (set x (+ x (* i j))))) (ret x))", []int{0, 0}, t0, as(784)},
		{head + "(for i 8 (if (= i a) ((ret (* i 10))) ())) (ret 99))", []int{5, 0}, t0, as(50)},
		{head + "(for i 8 (if (= i a) ((ret (* i 10))) ())) (ret 99))", []int{8, 0}, t0, as(99)},
		{head + "(for i 3 (let sec x i) (set x (+ x b)) (if i () ((set b x)))) (ret b))", []int{0, 6}, t0, as(6)},
		{head + "(for i 3 (ret i)) (ret 9))", []int{0, 0}, t0, as(0)},
	})
}

func TestLowerOfWhatIsPublicAndLeads(t *testing.T) {
	const head = "(fn ((pub a) (pub b)) ((pub t 2)) "
	const both = head + "(let pub x 1) (if a ((set x 2) (put t 0 5)) ((set x (+ x 2)) (put t 1 6))) (ret x))"
	const inner = head + "(if a ((if b ((ret 1)) ((ret 2)))) ((if b ((ret 3)) ()))) (ret 4))"
	const all = head + "(if a ((ret 1)) ((ret 2))))"
	const first = head + "(if a ((ret 1)) ((set a 7))) (ret a))"
	const last = head + "(if a ((set a 7)) ((ret 1))) (ret a))"
	const none = head + "(if a () ()) (if a () ((set b 5))) (ret b))"
	t0 := []int{0, 0}
	wantAll(t, []came{
		{both, []int{1, 0}, [][]int{t0}, ends(2, []int{5, 0})},
		{both, []int{0, 0}, [][]int{t0}, ends(3, []int{0, 6})},
		{both, []int{api.MaxWord, 0}, [][]int{t0}, ends(2, []int{5, 0})},
		{inner, []int{1, 1}, [][]int{t0}, ends(1, t0)},
		{inner, []int{1, 0}, [][]int{t0}, ends(2, t0)},
		{inner, []int{0, 1}, [][]int{t0}, ends(3, t0)},
		{inner, []int{0, 0}, [][]int{t0}, ends(4, t0)},
		{all, []int{5, 0}, [][]int{t0}, ends(1, t0)},
		{all, []int{0, 0}, [][]int{t0}, ends(2, t0)},
		{first, []int{5, 0}, [][]int{t0}, ends(1, t0)},
		{first, []int{0, 0}, [][]int{t0}, ends(7, t0)},
		{last, []int{5, 0}, [][]int{t0}, ends(7, t0)},
		{last, []int{0, 0}, [][]int{t0}, ends(1, t0)},
		{none, []int{5, 1}, [][]int{t0}, ends(1, t0)},
		{none, []int{0, 1}, [][]int{t0}, ends(5, t0)},
		// Names that end with a block are new ones in another.
		{head + "(if a ((let pub x 3) (set a x)) ((let sec x 4) (put t 0 1))) (let sec x 5) (ret (+ x a)))", []int{1, 0}, [][]int{t0}, ends(8, t0)},
		// A word that was jumped over is not the one of another round.
		{head + "(for i 3 (let pub x 0) (if (= i b) ((set x 9)) ()) (put t (& i 1) x)))", []int{0, 1}, [][]int{{7, 7}}, ends(0, []int{0, 9})},
	})
}

func TestLowerOfTraps(t *testing.T) {
	const head = "(fn ((pub a) (sec b)) ((pub t 2) (sec u 3)) "
	t0 := [][]int{{1, 2}, {3, 4, 5}}
	for _, place := range []int{2, 3, 1 << 31, api.MaxWord} {
		wantAll(t, []came{
			{head + "(ret (at t a)))", []int{place, 0}, t0, trap(t0...)},
			{head + "(put t a 7) (ret 1))", []int{place, 0}, t0, trap(t0...)},
			{head + "(set a (at t a)) (ret 1))", []int{place, 0}, t0, trap(t0...)},
			{head + "(let pub x (at t a)) (ret 1))", []int{place, 0}, t0, trap(t0...)},
			{head + "(if (at t a) ((ret 1)) ((ret 2))))", []int{place, 0}, t0, trap(t0...)},
		})
	}
	wantAll(t, []came{
		{head + "(ret (at t a)))", []int{1, 0}, t0, ends(2, t0...)},
		{head + "(ret (at t 2)))", []int{1, 0}, t0, trap(t0...)},
		{head + "(ret (at u 2)))", []int{1, 0}, t0, ends(5, t0...)},
		{head + "(put u 3 1))", []int{1, 0}, t0, trap(t0...)},
		{head + "(put u 4294967295 1))", []int{1, 0}, t0, trap(t0...)},
		// Arrays are as they are then.
		{head + "(put t 0 9) (put u a b) (put t a 8) (put t 1 7))", []int{2, 6}, t0, trap([]int{9, 2}, []int{3, 4, 6})},
		{head + "(put u a (at u 3)))", []int{0, 0}, t0, trap(t0...)},
		{head + "(put t (at t 1) (at t 0)))", []int{0, 0}, t0, trap(t0...)},
		// What is not chosen traps, too; and what comes to nothing.
		{head + "(ret (sel 1 b (at t a))))", []int{2, 0}, t0, trap(t0...)},
		{head + "(ret (sel b (at t a) 1)))", []int{2, 0}, t0, trap(t0...)},
		{head + "(set b (* 0 (at t a))))", []int{2, 0}, t0, trap(t0...)},
		// What is jumped over does not.
		{head + "(if (< a 2) ((ret (at t a))) ()) (ret 7))", []int{2, 0}, t0, ends(7, t0...)},
		{head + "(for i 8 (put u i b)))", []int{0, 9}, t0, trap(t0[0], []int{9, 9, 9})},
		{head + "(for i 8 (if (< i 3) ((put u i b)) ())))", []int{0, 9}, t0, ends(0, t0[0], []int{9, 9, 9})},
		// In the dark there is a look at nothing; ahead of it, and behind, there is.
		{head + "(if b ((put u 2 (at t 1))) ()) (put u a 1))", []int{3, 1}, t0, trap(t0[0], []int{3, 4, 2})},
		{head + "(if (+ b (at t a)) ((put u 2 1)) ()))", []int{3, 1}, t0, trap(t0...)},
	})
}

// Example 6: a secret leads to it, or not: both ways are done.
func TestBothWaysAreDone(t *testing.T) {
	f := read(t, "(fn ((sec a) (sec x)) () (if a ((set x 2)) ()) (ret x))")
	x := flat(t, f)
	for _, c := range [][3]int{{0, 7, 7}, {1, 7, 2}, {api.MaxWord, 7, 2}, {2, 2, 2}} {
		got, _ := flatRun(x, api.Given{Words: c[:2]})
		if !same(got, ends(c[2])) {
			t.Errorf("of %v comes %v", c, got)
		}
	}
	for _, i := range x.Code {
		if i.Op == api.OpZero || i.Op == api.OpJump {
			t.Errorf("%v leads on", i)
		}
	}
}

func TestLowerOfWhatIsSecretAndLeads(t *testing.T) {
	const head = "(fn ((sec a) (sec b) (pub c)) ((sec t 2) (pub u 2)) "
	const own = head + "(if a ((set a 0) (set b 1)) ((set a 5) (set b 2))) (ret (+ (* a 10) b)))"
	const puts = head + "(if a ((put t 0 b) (put t 1 (at t 0))) ((put t 1 (at u 1)))) (ret (at t 1)))"
	const names = head + "(if a ((let sec x b) (set x (+ x 1)) (set b x)) ((let sec x 9) (set b (+ b x)))) (let sec x b) (ret x))"
	const loops = head + "(if a ((for i 4 (set b (+ b i)) (put t 0 i))) ((for i 2 (for j 2 (set b (* b 2)))))) (ret b))"
	const inner = head + "(if a ((if c ((set b 1)) ((set b 2)))) ((if c ((put t 0 3)) ((put t 1 4))))) (ret b))"
	const round = head + "(for i 4 (if (= i a) ((set b i)) ((put t 0 i)))) (ret b))"
	const outer = head + "(if c ((if a ((set b 1)) ((set b 2)))) ((if b ((set a 3)) ()) (set b a))) (ret b))"
	u := []int{8, 9}
	given := [][]int{{6, 7}, u}
	wantAll(t, []came{
		// What leads stays what it was, whatever is set.
		{own, []int{3, 7, 0}, given, ends(1, given...)},
		{own, []int{0, 7, 0}, given, ends(52, given...)},
		{puts, []int{1, 5, 0}, given, ends(5, []int{5, 5}, u)},
		{puts, []int{0, 5, 0}, given, ends(9, []int{6, 9}, u)},
		{names, []int{1, 5, 0}, given, ends(6, given...)},
		{names, []int{0, 5, 0}, given, ends(14, given...)},
		{loops, []int{1, 5, 0}, given, ends(11, []int{3, 7}, u)},
		{loops, []int{0, 5, 0}, given, ends(80, given...)},
		{inner, []int{1, 5, 1}, given, ends(1, given...)},
		{inner, []int{1, 5, 0}, given, ends(2, given...)},
		{inner, []int{0, 5, 1}, given, ends(5, []int{3, 7}, u)},
		{inner, []int{0, 5, 0}, given, ends(5, []int{6, 4}, u)},
		{round, []int{2, 5, 0}, given, ends(2, []int{3, 7}, u)},
		{round, []int{3, 5, 0}, given, ends(3, []int{2, 7}, u)},
		{round, []int{9, 5, 0}, given, ends(5, []int{3, 7}, u)},
		{outer, []int{1, 5, 1}, given, ends(1, given...)},
		{outer, []int{0, 5, 1}, given, ends(2, given...)},
		{outer, []int{0, 5, 0}, given, ends(3, given...)},
		{outer, []int{4, 0, 0}, given, ends(4, given...)},
		{head + "(if a () ()) (if (+ a b) () ((set b 4))) (ret b))", []int{0, 0, 0}, given, ends(4, given...)},
	})
}

// Three secrets lead to one of eight ways; each has its own number added, and put.
func TestSecretsLeadWithinOneAnother(t *testing.T) {
	const yesYes = "(if c ((set x (+ x 10)) (put t 0 x)) ((set x (+ x 20)))) (put t 1 1)"
	const yesNo = "(if c ((set x (+ x 30))) ((set x (+ x 40)) (put t 1 2)))"
	const noYes = "(if c ((set x (+ x 50))) ((set x (+ x 60))))"
	const noNo = "(if c ((set x (+ x 70)) (put t 0 3)) ((set x (+ x 80))))"
	const yes = "(set x (+ x 1)) (if b (" + yesYes + ") (" + yesNo + "))"
	const no = "(if b (" + noYes + ") (" + noNo + ")) (set x (+ x 2))"
	const text = "(fn ((sec a) (sec b) (sec c)) ((sec t 2)) (let sec x 1000) (if a (" + yes + ") (" + no + ")) (ret x))"
	want := []api.Ended{
		ends(1082, []int{0, 0}), ends(1072, []int{3, 0}), ends(1062, []int{0, 0}), ends(1052, []int{0, 0}),
		ends(1041, []int{0, 2}), ends(1031, []int{0, 0}), ends(1021, []int{0, 1}), ends(1011, []int{1011, 1}),
	}
	var l []came
	for i, w := range want {
		for _, n := range []int{1, 2, api.MaxWord} {
			l = append(l, came{text, []int{n * (i >> 2 & 1), n * (i >> 1 & 1), n * (i & 1)}, [][]int{{0, 0}}, w})
		}
	}
	wantAll(t, l)
}

// A secret sets what leads further within, and what led around it.
func TestWhatLeadsIsSetWithin(t *testing.T) {
	const text = "(fn ((sec a) (sec b)) () (let sec x 0) (if a ((set b (- 1 b)) (if b ((set a 0) (set b 0) (set x (+ x 1))) ((set a 7) (set b 1) (set x (+ x 2))))) ((set a 9) (if b ((set b 0) (set x (+ x 4))) ((set b 1) (set x (+ x 8)))))) (ret (+ (* 1000 x) (+ (* 10 a) b))))"
	wantAll(t, []came{
		{text, []int{1, 0}, nil, ends(1000)},
		{text, []int{1, 1}, nil, ends(2071)},
		{text, []int{0, 1}, nil, ends(4090)},
		{text, []int{0, 0}, nil, ends(8091)},
	})
}

// nodes counts statements, and expressions, as often as loops have them done.
func nodes(l []api.Stmt) int {
	n := 0
	for _, s := range l {
		rounds := 1
		if s.Kind == api.StFor {
			rounds = s.N
		}
		n += 1 + parts(s.Args) + rounds*nodes(s.Then) + nodes(s.Else)
	}
	return n
}

func parts(l []api.Expr) int {
	n := len(l)
	for _, e := range l {
		n += parts(e.Args)
	}
	return n
}

// Programs that have as much of one kind as 500 lets them: all of it is done.
func TestWhatIsSmallEnoughIsDone(t *testing.T) {
	dark := strings.Repeat("(if b (", 6) + "(put u 0 b)" + strings.Repeat(") ((set b 1)))", 6)
	for _, s := range []string{
		"(for i 8 (for j 8 (put u a b)))",
		"(for i 8 (for j 3 (put t (at t (at t (at t a))) (at t (at t a)))))",
		"(for i 8 (for j 8 (set b (at t a))))",
		"(for i 8 (for j 8 (if a () ())))",
		"(for i 8 (for j 8 (if b () ())))",
		"(for i 8 (for j 3 (if b ((put u 0 b)) ((set b a)))))",
		"(if b ((for i 8 (for j 8 (put u 0 b)))) ())",
		"(if b ((for i 8 (for j 6 (set b 1) (put u 0 b)))) ())",
		"(if b ((for i 8 (for j 3 (if b ((set b 1)) ((set b 2)))))) ())",
		"(for i 8 " + dark + ")",
		"(for i 8 (for j 8 (for k 3 (set b b))))",
		"(for i 8 (for j 8 (for k 2 (for l 8))))",
		"(for i 8 (for j 4 (for k 1 (for l 1 (for m 1 (for n 1 (set a 5)))))))",
		"(ret " + strings.Repeat("(+ (at t a) ", 4) + "a" + strings.Repeat(")", 4) + ")",
	} {
		f := read(t, "(fn ((pub a) (sec b)) ((sec u 8) (pub t 8)) "+s+")")
		if n := nodes(f.Body); n > 500 {
			t.Fatalf("%q has %d", s, n)
		}
		sameEnds(t, f, flat(t, f), api.Given{Words: []int{3, 5}, Arrays: [][]int{make([]int, 8), {7, 6, 5, 4, 3, 2, 1, 0}}})
	}
}

// sameEnds looks whether flat instructions end as their program does.
func sameEnds(t *testing.T, f api.Fn, x api.Flat, g api.Given) api.Ended {
	t.Helper()
	want, err := eval.Run(f, g)
	if got, _ := flatRun(x, g); err != api.OK || !same(got, want) {
		t.Fatalf("flat, %q, of %v, ends %v, not %v, %d", lang.Print(f), g, got, want, err)
	}
	return want
}

// sum has n numbers added: 2n - 1 instructions.
func sum(n int) api.Expr {
	if n == 1 {
		return api.Expr{Kind: api.ExNum, N: 1}
	}
	return api.Expr{Kind: api.ExTwo, N: api.OpAdd, Args: []api.Expr{sum(n / 2), sum(n - n/2)}}
}

func TestLowerOfTooMuch(t *testing.T) {
	wantMuch := func(f api.Fn) {
		t.Helper()
		x, err := lower.Lower(f)
		if err != api.ErrMuch || !reflect.DeepEqual(x, api.Flat{}) {
			t.Errorf("Lower is %d, with %d instructions", err, len(x.Code))
		}
	}
	body := func(l ...api.Stmt) api.Fn {
		return api.Fn{Params: []api.Var{{Name: "a"}}, Arrays: []api.Var{{Name: "t", Size: 2}}, Body: l}
	}
	ret := func(l ...api.Expr) api.Stmt { return api.Stmt{Kind: api.StRet, Args: l} }
	// An instruction each, and one to end: MaxCode of them are not too much.
	x := flat(t, body(ret(sum(api.MaxCode/2))))
	if got, _ := flatRun(x, api.Given{Words: []int{1}, Arrays: [][]int{{0, 0}}}); len(x.Code) != api.MaxCode || got.Word != api.MaxCode/2 {
		t.Errorf("there are %d instructions, and %v comes", len(x.Code), got)
	}
	wantMuch(body(ret(sum(api.MaxCode/2 + 1))))
	wantMuch(body(api.Stmt{Kind: api.StLet, Name: "x", Args: []api.Expr{sum(api.MaxCode / 2)}}))
	wantMuch(body(api.Stmt{Kind: api.StIf, Args: []api.Expr{sum(api.MaxCode)}, Then: []api.Stmt{ret(sum(2))}, Else: []api.Stmt{ret(sum(2))}}))
	wantMuch(body(ret(api.Expr{Kind: api.ExAt, Name: "t", Args: []api.Expr{sum(api.MaxCode / 2)}})))
	choice := "1"
	for range 4 {
		choice = "(sel " + choice + " " + choice + " " + choice + ")"
	}
	wantMuch(read(t, "(fn ((sec a)) () (for i 8 (for j 8 (for k 3 (set a "+choice+")))))"))
}

// clone is a copy of all of f, so that what f was can be asked behind a call.
func clone(f api.Fn) api.Fn {
	return api.Fn{Params: slices.Clone(f.Params), Arrays: slices.Clone(f.Arrays), Body: cloneBlock(f.Body)}
}

func cloneBlock(l []api.Stmt) []api.Stmt {
	l = slices.Clone(l)
	for i := range l {
		l[i].Args, l[i].Then, l[i].Else = cloneExprs(l[i].Args), cloneBlock(l[i].Then), cloneBlock(l[i].Else)
	}
	return l
}

func cloneExprs(l []api.Expr) []api.Expr {
	l = slices.Clone(l)
	for i := range l {
		l[i].Args = cloneExprs(l[i].Args)
	}
	return l
}

const whole = "(fn ((pub a) (sec b)) ((sec t 4) (pub u 2)) (let sec x (+ a b)) (if x ((put t 1 x) (set x 3)) ((put t 2 b))) (for i 3 (put u (% a 2) (+ a i))) (if a ((ret (at t a))) ()) (ret (sel b x (at t 1))))"

func TestWhatIsHandedInIsOnlyRead(t *testing.T) {
	f := read(t, whole)
	was := clone(f)
	x := flat(t, f)
	if !reflect.DeepEqual(f, was) {
		t.Fatalf("the program is %v then", f)
	}
	again := flat(t, f)
	if !reflect.DeepEqual(x, again) {
		t.Errorf("of the same program come %v and %v", x, again)
	}
	f.Params[1].Secret, f.Arrays[0].Name, f.Arrays[1].Size, f.Body[0] = false, "zap", 7, api.Stmt{}
	if !reflect.DeepEqual(x, again) || x.Arrays[0].Name != "t" || x.Arrays[1].Size != 2 {
		t.Errorf("what was answered hangs on what was handed in: %v", x)
	}
	f = clone(was)
	x = flat(t, f)
	clear(x.Code[:cap(x.Code)])
	clear(x.Secret[:cap(x.Secret)])
	clear(x.Arrays[:cap(x.Arrays)])
	if !reflect.DeepEqual(f, was) || !reflect.DeepEqual(flat(t, f), again) {
		t.Errorf("what was handed in hangs on what was answered: %v", f)
	}
}

// The spare room behind lists is neither looked at nor changed.
func TestSpareRoomIsNotTouched(t *testing.T) {
	f := read(t, whole)
	want := flat(t, f)
	zap := api.Stmt{Kind: api.StRet, Args: []api.Expr{{Kind: api.ExNum, N: 99}}}
	params := append(slices.Clip(f.Params), api.Var{Name: "zap"})
	arrays := append(slices.Clip(f.Arrays), api.Var{Name: "zap", Size: 1})
	body := append(slices.Clip(f.Body), zap)
	f.Params, f.Arrays, f.Body = params[:len(f.Params)], arrays[:len(f.Arrays)], body[:len(f.Body)]
	if got := flat(t, f); !reflect.DeepEqual(got, want) {
		t.Errorf("with spare room it is %v, not %v", got, want)
	}
	if params[2].Name != "zap" || arrays[2].Name != "zap" || !reflect.DeepEqual(body[len(body)-1], zap) {
		t.Errorf("spare room is changed: %v, %v, %v", params, arrays, body)
	}
}

func TestListsWithoutEntriesAreTheSame(t *testing.T) {
	some := api.Fn{Body: []api.Stmt{{Kind: api.StIf, Args: []api.Expr{{Kind: api.ExNum, N: 1}}}, {Kind: api.StFor, Name: "i", N: 3}}}
	other := clone(some)
	other.Params, other.Arrays = []api.Var{}, []api.Var{}
	for i := range other.Body {
		other.Body[i].Then, other.Body[i].Else = []api.Stmt{}, []api.Stmt{}
	}
	other.Body[0].Args[0].Args = []api.Expr{}
	a, b := flat(t, some), flat(t, other)
	if !reflect.DeepEqual(a.Code, b.Code) || !slices.Equal(a.Secret, b.Secret) || len(b.Arrays) != 0 {
		t.Errorf("%v and %v", a, b)
	}
	x := flat(t, api.Fn{Params: []api.Var{}, Arrays: []api.Var{}, Body: []api.Stmt{}})
	if got, _ := flatRun(x, api.Given{}); !same(got, ends(0)) {
		t.Errorf("of nothing comes %v", got)
	}
}

// Fields that a kind has not mean nothing.
func TestLowerOfNeedlessFields(t *testing.T) {
	x := []api.Expr{{Kind: api.ExName, Name: "x"}}
	bad := []api.Stmt{{Kind: api.StRet, Args: x}}
	one := []api.Expr{{Kind: api.ExNum, N: 1, Name: "x", Args: x}}
	plain := read(t, "(fn ((pub a)) () (for i 1 (let pub y i)) (set a 1) (if 1 () ()) (ret 1))")
	f := clone(plain)
	f.Params[0].Size = 99
	f.Body[0].Secret, f.Body[0].Args, f.Body[0].Else = true, x, bad
	f.Body[0].Then[0] = api.Stmt{Kind: api.StLet, Name: "y", N: 9, Args: []api.Expr{{Kind: api.ExName, N: 7, Name: "i", Args: x}}, Then: bad, Else: bad}
	f.Body[1] = api.Stmt{Kind: api.StSet, Name: "a", N: 9, Secret: true, Args: one, Then: bad, Else: bad}
	f.Body[2] = api.Stmt{Kind: api.StIf, Name: "x", N: 9, Secret: true, Args: one}
	f.Body[3] = api.Stmt{Kind: api.StRet, Name: "x", N: 9, Secret: true, Args: one, Then: bad, Else: bad}
	if got, want := flat(t, f), flat(t, plain); !reflect.DeepEqual(got, want) {
		t.Errorf("it is %v, not %v", got, want)
	}
}

// Of what is no right program nothing is promised, but that it ends, and does not panic.
func TestLowerOfWhatIsNoProgram(t *testing.T) {
	for _, s := range []string{
		"(fn () () (ret x))", "(fn () () (set x 1))", "(fn () () (put t 0 1))", "(fn () () (ret (at t 0)))",
		"(fn ((sec a)) ((pub t 2)) (if a ((ret 1)) ((put t a 2))) (ret (at t a)))",
		"(fn ((pub a) (sec a)) ((pub a 2) (sec a 3)) (let pub a a) (for a 2 (set a (at a a))))",
		"(fn () () " + strings.Repeat("(for i 8 ", 7) + "(if x () ())" + strings.Repeat(")", 8),
	} {
		f, err := lang.Parse(s)
		if err != api.OK {
			t.Fatalf("%q is no text of a program: %d", s, err)
		}
		lower.Lower(f)
	}
	deep := api.Expr{Kind: api.ExNum}
	for range 1 << 12 {
		deep = api.Expr{Kind: api.ExTwo, N: api.OpAdd, Args: []api.Expr{deep, {Kind: api.ExNum}}}
	}
	twice := api.Expr{Kind: api.ExName, Name: "a"}
	for range 64 {
		twice = api.Expr{Kind: api.ExSel, Args: []api.Expr{twice, twice, twice}}
	}
	ways := api.Stmt{Kind: api.StRet}
	for range 64 {
		ways = api.Stmt{Kind: api.StIf, Args: []api.Expr{name("a")}, Then: []api.Stmt{ways, ways}, Else: []api.Stmt{ways}}
	}
	for _, secret := range []bool{false, true} {
		lower.Lower(api.Fn{Params: []api.Var{{Name: "a", Secret: secret}}, Body: []api.Stmt{ways}})
	}
	for kind := -1; kind <= 8; kind++ {
		for _, args := range [][]api.Expr{nil, {{Kind: 9}}, {deep}, {twice, twice}, {{Kind: api.ExAt, Name: "t"}}, {{Kind: api.ExTwo}, {Kind: api.ExSel}, {}}, {{Kind: api.ExNum, N: math.MinInt}, {Kind: api.ExTwo, N: api.OpRet}}} {
			s := api.Stmt{Kind: kind, N: math.MaxInt, Name: "t", Args: args}
			lower.Lower(api.Fn{Params: []api.Var{{Name: "a", Secret: true}}, Arrays: []api.Var{{Name: "t", Size: math.MinInt}}, Body: []api.Stmt{s, s}})
			s.Then = []api.Stmt{{Kind: 99}, {Kind: api.StFor, Name: "j", N: math.MinInt, Then: []api.Stmt{s}}}
			lower.Lower(api.Fn{Body: []api.Stmt{s, {Kind: api.StFor, Name: "j", N: math.MaxInt, Then: []api.Stmt{s}}}})
		}
	}
}
