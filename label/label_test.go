package label_test

import (
	"math"
	"strings"
	"testing"

	"evenpace/api"
	"evenpace/label"
	"evenpace/lang"
)

// told is a program's text, and what Check tells of it.
type told struct {
	text string
	want api.Errno
}

func read(t *testing.T, s string) api.Fn {
	t.Helper()
	f, err := lang.Parse(s)
	if err != api.OK {
		t.Fatalf("%q is no program: %d", s, err)
	}
	return f
}

func wantAll(t *testing.T, l []told) {
	t.Helper()
	for _, x := range l {
		if got := label.Check(read(t, x.text)); got != x.want {
			t.Errorf("Check of %q is %d, not %d", x.text, got, x.want)
		}
	}
}

func TestCheckOfParametersAndArrays(t *testing.T) {
	wantAll(t, []told{
		{"(fn () ())", api.OK},
		{"(fn ((pub a) (sec b) (pub c) (sec d)) ((pub t 1) (sec u 8) (pub v 2)))", api.OK},
		{"(fn ((pub a) (sec b) (pub c) (sec d) (pub e)) ())", api.ErrMany},
		{"(fn () ((pub t 1) (sec u 8) (pub v 2) (pub w 2)))", api.ErrMany},
		{"(fn ((pub a) (pub a) (pub c) (sec d) (pub e)) ())", api.ErrMany},
		{"(fn ((pub a) (pub a)) ((pub t 1) (sec u 8) (pub v 2) (pub w 2)))", api.ErrMany},
		{"(fn ((pub a) (pub b) (pub c) (sec d) (pub e)) () (ret x))", api.ErrMany},
		{"(fn ((pub a) (sec a)) ())", api.ErrName},
		{"(fn ((pub a) (pub b) (pub c) (pub a)) ())", api.ErrName},
		{"(fn () ((pub t 1) (pub u 1) (sec t 2)))", api.ErrName},
		{"(fn ((pub b) (pub a)) ((pub t 1) (pub a 1)))", api.ErrName},
		{"(fn ((pub a) (pub a)) () (ret x))", api.ErrName},
		{"(fn ((pub a)) ((pub aa 1)) (ret a))", api.OK},
	})
}

func TestCheckOfExpressions(t *testing.T) {
	const head = "(fn ((pub a) (sec b)) ((pub t 2) (sec u 2)) "
	wantAll(t, []told{
		{head + "(ret 1))", api.OK},
		{head + "(ret a))", api.OK},
		{head + "(ret b))", api.OK},
		{head + "(ret x))", api.ErrNone},
		{head + "(ret t))", api.ErrNone},
		{head + "(ret (+ a x)))", api.ErrNone},
		{head + "(ret (+ x a)))", api.ErrNone},
		{head + "(ret (sel a b x)))", api.ErrNone},
		{head + "(ret (at t 0)))", api.OK},
		{head + "(ret (at t 2)))", api.OK},
		{head + "(ret (at t a)))", api.OK},
		{head + "(ret (at u (at t a))))", api.OK},
		{head + "(ret (at v 0)))", api.ErrNone},
		{head + "(ret (at a 0)))", api.ErrNone},
		{head + "(ret (at t x)))", api.ErrNone},
		{head + "(ret (at t b)))", api.ErrLabel},
		{head + "(ret (at u b)))", api.ErrLabel},
		{head + "(ret (at t (+ a b))))", api.ErrLabel},
		{head + "(ret (at t (* b 0))))", api.ErrLabel},
		{head + "(ret (at t (sel a b 1))))", api.ErrLabel},
		{head + "(ret (at t (sel b a 1))))", api.ErrLabel},
		{head + "(ret (at t (sel a 1 b))))", api.ErrLabel},
		{head + "(ret (at t (at u 0))))", api.ErrLabel},
		{head + "(ret (at t (+ 1 (+ 1 (at u 0))))))", api.ErrLabel},
		// The array counts ahead of the place's label.
		{head + "(ret (at v b)))", api.ErrNone},
		// Inner ones count first.
		{head + "(ret (at v (at t b))))", api.ErrLabel},
		{head + "(ret (at t (+ b x))))", api.ErrNone},
		// First ones count first.
		{head + "(ret (+ (at t b) x)))", api.ErrLabel},
		{head + "(ret (+ x (at t b))))", api.ErrNone},
		{head + "(ret (sel 1 (at t b) x)))", api.ErrLabel},
		// Statements count in turn.
		{head + "(ret x) (ret (at t b)))", api.ErrNone},
		{head + "(ret (at t b)) (ret x))", api.ErrLabel},
		{head + "(ret 1) (ret x))", api.ErrNone},
	})
}

func TestCheckOfLet(t *testing.T) {
	const head = "(fn ((pub a) (sec b)) ((pub t 2) (sec u 2)) "
	wantAll(t, []told{
		{head + "(let pub x a) (ret x))", api.OK},
		{head + "(let sec x a) (ret x))", api.OK},
		{head + "(let sec x b) (ret x))", api.OK},
		{head + "(let pub x b))", api.ErrLabel},
		{head + "(let pub x (- b b)))", api.ErrLabel},
		{head + "(let pub x (at t 1)))", api.OK},
		{head + "(let pub x (at u 1)))", api.ErrLabel},
		{head + "(let pub x (sel a 1 2)))", api.OK},
		{head + "(let pub x (sel b 1 2)))", api.ErrLabel},
		// What was made secret is so, whatever it was made of.
		{head + "(let sec x 1) (let pub y x))", api.ErrLabel},
		{head + "(let pub x 1) (let pub y x))", api.OK},
		{head + "(let pub a 1))", api.ErrName},
		{head + "(let pub t 1))", api.ErrName},
		{head + "(let sec u 1))", api.ErrName},
		{head + "(let pub x 1) (let sec x 1))", api.ErrName},
		{head + "(let pub x x))", api.ErrNone},
		{head + "(ret x) (let pub x 1))", api.ErrNone},
		// Its expression counts ahead of its name, and that ahead of its label.
		{head + "(let pub a x))", api.ErrNone},
		{head + "(let pub a (at t b)))", api.ErrLabel},
		{head + "(let pub a b))", api.ErrName},
		// It is there in this block, and those within.
		{head + "(let pub x 1) (if a ((ret x)) ((for i 2 (ret x)))))", api.OK},
		{head + "(let pub x 1) (if a ((let pub x 2)) ()))", api.ErrName},
		{head + "(let pub x 1) (for i 2 (let pub x 2)))", api.ErrName},
		{head + "(if a ((let pub x 1) (ret x)) ((let pub x 2) (ret x))) (let sec x 3) (ret x))", api.OK},
		{head + "(if a ((let pub x 1)) ((ret x))))", api.ErrNone},
		{head + "(if a ((let pub x 1)) ()) (ret x))", api.ErrNone},
		{head + "(if a () ((let pub x 1))) (ret x))", api.ErrNone},
		{head + "(for i 2 (let pub x 1)) (ret x))", api.ErrNone},
		{head + "(for i 2 (ret x) (let pub x 1)))", api.ErrNone},
		{head + "(for i 2 (let pub x 1) (ret x)) (let pub x 1))", api.OK},
		// Only what is secret may be made in the dark.
		{head + "(if b ((let pub x 1)) ()))", api.ErrLabel},
		{head + "(if b () ((let pub x 1))))", api.ErrLabel},
		{head + "(if b ((let sec x 1)) ((let sec x b))))", api.OK},
	})
}

func TestCheckOfSet(t *testing.T) {
	const head = "(fn ((pub a) (sec b)) ((pub t 2) (sec u 2)) "
	wantAll(t, []told{
		{head + "(set a 1))", api.OK},
		{head + "(set a (at t 1)))", api.OK},
		{head + "(set b a) (set b b) (set b (at u 1)))", api.OK},
		{head + "(set a b))", api.ErrLabel},
		{head + "(set a (at u 1)))", api.ErrLabel},
		{head + "(set x 1))", api.ErrNone},
		{head + "(set t 1))", api.ErrNone},
		{head + "(set x b))", api.ErrNone},
		{head + "(set a x))", api.ErrNone},
		{head + "(set x (at t b)))", api.ErrLabel},
		{head + "(let pub x 1) (set x 2))", api.OK},
		{head + "(let pub x 1) (set x b))", api.ErrLabel},
		{head + "(let sec x 1) (set x b))", api.OK},
		{head + "(if 1 ((let pub x 1)) ()) (set x 2))", api.ErrNone},
		// What is set stays public, or secret.
		{head + "(set b 1) (set a b))", api.ErrLabel},
		// A loop's name is not set, though it is there.
		{head + "(for i 2 (set i 1)))", api.ErrNone},
		{head + "(for i 2 (set i b)))", api.ErrNone},
		{head + "(for i 2 (for j 2 (set i 1))))", api.ErrNone},
		{head + "(for i 2 (ret i)) (set i 1))", api.ErrNone},
		// In the dark only what is secret is set.
		{head + "(if b ((set a 1)) ()))", api.ErrLabel},
		{head + "(if b () ((set a 1))))", api.ErrLabel},
		{head + "(if b ((set b 1)) ((set b a))))", api.OK},
		{head + "(if b ((set x 1)) ()))", api.ErrNone},
	})
}

func TestCheckOfPut(t *testing.T) {
	const head = "(fn ((pub a) (sec b)) ((pub t 2) (sec u 8)) "
	wantAll(t, []told{
		{head + "(put t 0 1))", api.OK},
		{head + "(put t 2 1))", api.OK},
		{head + "(put t a a))", api.OK},
		{head + "(put u a b))", api.OK},
		{head + "(put u 0 (at t 0)))", api.OK},
		{head + "(put t 0 b))", api.ErrLabel},
		{head + "(put t 0 (at u 0)))", api.ErrLabel},
		{head + "(put t b 1))", api.ErrLabel},
		{head + "(put u b 1))", api.ErrLabel},
		{head + "(put u (at u 0) 1))", api.ErrLabel},
		{head + "(put v 0 1))", api.ErrNone},
		{head + "(put a 0 1))", api.ErrNone},
		{head + "(put t x 1))", api.ErrNone},
		{head + "(put t 0 x))", api.ErrNone},
		{head + "(put v b b))", api.ErrNone},
		// Both expressions count ahead of what is put where.
		{head + "(put t b x))", api.ErrNone},
		{head + "(put v 0 (at t b)))", api.ErrLabel},
		{head + "(put t x (at t b)))", api.ErrNone},
		{head + "(put t (at t b) x))", api.ErrLabel},
		// In the dark: only in what is secret, and at a number below its size.
		{head + "(if b ((put u 0 1)) ((put u 7 b))))", api.OK},
		{head + "(if b ((put u 8 1)) ()))", api.ErrLabel},
		{head + "(if b () ((put u 8 1))))", api.ErrLabel},
		{head + "(if b ((put u a 1)) ()))", api.ErrLabel},
		{head + "(if b ((put u (+ 0 0) 1)) ()))", api.ErrLabel},
		{head + "(if b ((put t 0 1)) ()))", api.ErrLabel},
		{head + "(if b ((put v 8 1)) ()))", api.ErrNone},
		{head + "(if b ((for i 2 (put u i 1))) ()))", api.ErrLabel},
	})
}

func TestCheckOfTheDark(t *testing.T) {
	const head = "(fn ((pub a) (sec b)) ((pub t 2) (sec u 2)) "
	wantAll(t, []told{
		{head + "(if a ((ret 1)) ((ret b))))", api.OK},
		{head + "(if b () ()) (ret 1))", api.OK},
		{head + "(if b ((ret 1)) ()))", api.ErrLabel},
		{head + "(if b () ((ret 1))))", api.ErrLabel},
		{head + "(if (= b 1) ((ret 1)) ()))", api.ErrLabel},
		{head + "(if (at u 0) ((ret 1)) ()))", api.ErrLabel},
		{head + "(if (at t 0) ((ret 1)) ()))", api.OK},
		{head + "(if b ((if a ((ret 1)) ())) ()))", api.ErrLabel},
		{head + "(if b ((if a () ((ret 1)))) ()))", api.ErrLabel},
		{head + "(if a ((if b ((ret 1)) ())) ()))", api.ErrLabel},
		{head + "(if a ((if b () ())) ((ret 1))))", api.OK},
		{head + "(if b ((for i 2 (ret 1))) ()))", api.ErrLabel},
		{head + "(if b ((for i 0 (ret 1))) ()))", api.OK},
		{head + "(if b ((for i 2 (set b i))) ()))", api.OK},
		{head + "(if b ((ret x)) ()))", api.ErrNone},
		{head + "(if x ((ret y)) ()))", api.ErrNone},
		{head + "(if (at t b) ((ret y)) ()))", api.ErrLabel},
		{head + "(if a ((ret x)) ((ret (at t b)))))", api.ErrNone},
		{head + "(if a ((ret (at t b))) ((ret x))))", api.ErrLabel},
		// Places must be sure in the dark, but the expression that leads there is not in it.
		{head + "(if b ((set b (at t 1))) ((set b (at u 0)))))", api.OK},
		{head + "(if b ((set b (at t 2))) ()))", api.ErrLabel},
		{head + "(if b () ((set b (at t a)))))", api.ErrLabel},
		{head + "(if b ((set b (at t (at t 0)))) ()))", api.ErrLabel},
		{head + "(if b ((set b (at t (+ 0 1)))) ()))", api.ErrLabel},
		{head + "(if b ((set b (at v (at t a)))) ()))", api.ErrLabel},
		{head + "(if b ((set b (at v a))) ()))", api.ErrNone},
		{head + "(if b ((set b (+ 1 (at u 2)))) ()))", api.ErrLabel},
		{head + "(if b ((let sec x (at u 2))) ()))", api.ErrLabel},
		{head + "(if b ((if (at t 2) () ())) ()))", api.ErrLabel},
		{head + "(if b ((if (at t 1) () ())) ()))", api.OK},
		{head + "(if b ((put u 0 (at t 2))) ()))", api.ErrLabel},
		{head + "(if b ((ret (at t 2))) ()))", api.ErrLabel},
		{head + "(if (+ b (at t a)) () ()))", api.OK},
		// It is not dark any more behind it.
		{head + "(if b ((set b 1)) ((set b 2))) (set a 1) (put t a 2) (let pub x (at t a)) (ret x))", api.OK},
	})
}

func TestCheckOfLoops(t *testing.T) {
	const head = "(fn ((pub a) (sec b)) ((pub t 2) (sec u 2)) "
	wantAll(t, []told{
		{head + "(for i 8 (ret i)))", api.OK},
		{head + "(for i 8 (let pub x (at t i)) (put t i x)))", api.OK},
		{head + "(for i 2 (for j 2 (set a (+ i j)))))", api.OK},
		{head + "(for i 2 (ret i)) (for i 2 (ret i)) (let sec i 1))", api.OK},
		{head + "(for a 2))", api.ErrName},
		{head + "(for t 2))", api.ErrName},
		{head + "(for t 0))", api.ErrName},
		{head + "(for i 2 (for i 2)))", api.ErrName},
		{head + "(for i 2 (let pub i 1)))", api.ErrName},
		{head + "(let pub i 1) (for i 2 (ret i)))", api.ErrName},
		{head + "(for i 2) (ret i))", api.ErrNone},
		{head + "(for a 2 (ret x)))", api.ErrName},
		{head + "(for i 1 (ret x)))", api.ErrNone},
		{head + "(for i 1 (ret (at i 0))))", api.ErrNone},
		// What is in no round is not done.
		{head + "(for i 0 (ret x)))", api.OK},
		{head + "(for i 0 (let pub x b) (for i 2)) (ret i))", api.ErrNone},
	})
}

func times(n int, s string) string {
	return strings.Repeat(s+" ", n)
}

func TestCheckOfWork(t *testing.T) {
	const head = "(fn ((pub a) (sec b)) () "
	// 1, and 8 times 37: 297.
	most := head + "(for i 8 (for j 6 " + times(6, "(set a j)") + ")) "
	wantAll(t, []told{
		{most + ")", api.OK},
		{most + times(3, "(ret 1)") + ")", api.OK},
		{most + times(4, "(ret 1)") + ")", api.ErrMuch},
		{head + times(6, "(for i 8 (for j 5 (ret i)))") + ")", api.OK},
		{head + times(6, "(for i 8 (for j 5 (ret i)))") + times(6, "(ret 1)") + ")", api.OK},
		{head + times(6, "(for i 8 (for j 5 (ret i)))") + times(7, "(ret 1)") + ")", api.ErrMuch},
		{head + times(6, "(for i 8 (for j 5 (ret i)))") + times(6, "(ret 1)") + "(for i 0))", api.ErrMuch},
		{head + times(6, "(for i 8 (for j 5 (ret i)))") + times(5, "(ret 1)") + "(for i 0 (ret x)))", api.OK},
		{head + times(6, "(for i 8 (for j 5 (ret i)))") + times(5, "(ret 1)") + "(for i 1 (ret 1)))", api.ErrMuch},
		// Both ways are counted.
		{head + times(6, "(for i 8 (for j 5 (ret i)))") + times(3, "(ret 1)") + "(if a ((ret 1)) ((ret 2))))", api.OK},
		{head + times(6, "(for i 8 (for j 5 (ret i)))") + times(4, "(ret 1)") + "(if a ((ret 1)) ((ret 2))))", api.ErrMuch},
		// That it is too much counts ahead of what else is wrong with a statement.
		{head + times(6, "(for i 8 (for j 5 (ret i)))") + times(6, "(ret 1)") + "(ret x))", api.ErrMuch},
		{head + times(6, "(for i 8 (for j 5 (ret i)))") + times(5, "(ret 1)") + "(ret x))", api.ErrNone},
		{head + times(6, "(for i 8 (for j 5 (ret i)))") + times(6, "(ret 1)") + "(let pub a b))", api.ErrMuch},
		{head + "(for i 8 (for j 8 (for k 8 (ret x)))))", api.ErrNone},
		{head + "(for i 8 (for j 8 (for k 8 (ret k)))) (ret x))", api.ErrMuch},
		{head + "(for h 8 (for i 8 (for j 8 (for k 8 (for l 8 (for m 8 (for n 8 (ret 1)))))))))", api.ErrMuch},
		{head + "(for h 8 (for i 8 (for j 8 (for k 8 (for l 8 (for m 8 (for n 8))))))))", api.ErrMuch},
	})
}

func TestCheckOfLets(t *testing.T) {
	const head = "(fn ((pub a) (sec b)) () "
	const most = head + "(for i 8 (for j 3 (let pub x 1))) "
	wantAll(t, []told{
		{most + ")", api.OK},
		{most + "(let pub y 1))", api.ErrMuch},
		{head + "(for i 8 (let pub x 1) (let sec y 1) (let pub z 1)))", api.OK},
		{head + "(for i 8 (let pub x 1) (let sec y 1) (let pub z 1)) (let sec y 1))", api.ErrMuch},
		{head + "(for i 8 (for j 2 (let pub x 1)) (if a ((let pub x 1)) ())))", api.OK},
		{head + "(for i 7 (for j 2 (let pub x 1)) (if a ((let pub x 1)) ((let sec x 1)))))", api.ErrMuch},
		{head + "(for i 6 (for j 2 (let pub x 1)) (if a ((let pub x 1)) ((let sec x 1)))))", api.OK},
		{most + "(for i 0 (let pub y 1)))", api.OK},
		// All else that is wrong with a let counts ahead of that.
		{most + "(let pub y x))", api.ErrNone},
		{most + "(let pub a 1))", api.ErrName},
		{most + "(let pub y b))", api.ErrLabel},
		{most + "(let pub y 1) (ret x))", api.ErrMuch},
	})
}

func TestCheckReadsOnly(t *testing.T) {
	f := read(t, "(fn ((pub a) (sec b)) ((sec t 4)) (let sec x (+ a b)) (if x ((put t 1 x) (let sec y 3)) ((set x 2))) (for i 3 (let pub z i)) (ret (at t 1)))")
	spare := func(l []api.Var) []api.Var { return append(make([]api.Var, 0, len(l)+3), l...) }
	f.Params, f.Arrays = spare(f.Params), spare(f.Arrays)
	f.Body = append(make([]api.Stmt, 0, len(f.Body)+3), f.Body...)
	ahead := lang.Print(f)
	for range 3 {
		if err := label.Check(f); err != api.OK {
			t.Fatalf("Check of %q is %d", ahead, err)
		}
	}
	if now := lang.Print(f); now != ahead {
		t.Errorf("%q became %q", ahead, now)
	}
	for _, v := range append(f.Params[len(f.Params):cap(f.Params)], f.Arrays[len(f.Arrays):cap(f.Arrays)]...) {
		if v != (api.Var{}) {
			t.Errorf("%v stands behind the lists", v)
		}
	}
	for _, s := range f.Body[len(f.Body):cap(f.Body)] {
		if s.Kind != 0 || s.Name != "" {
			t.Errorf("%v stands behind the statements", s)
		}
	}
}

func TestCheckOfNilAndEmpty(t *testing.T) {
	for _, f := range []api.Fn{{}, {Params: []api.Var{}, Arrays: []api.Var{}, Body: []api.Stmt{}}} {
		if err := label.Check(f); err != api.OK {
			t.Errorf("Check of %v is %d", f, err)
		}
	}
	loop := api.Stmt{Kind: api.StFor, Name: "i", N: 2, Then: []api.Stmt{}}
	if err := label.Check(api.Fn{Body: []api.Stmt{loop}}); err != api.OK {
		t.Errorf("Check of an empty loop is %d", err)
	}
}

// What a kind has not means nothing, whatever stands there.
func TestCheckOfNeedlessFields(t *testing.T) {
	x := []api.Expr{{Kind: api.ExName, Name: "x"}}
	bad := []api.Stmt{{Kind: api.StRet, Args: x}}
	one := []api.Expr{{Kind: api.ExNum, N: 1, Name: "x", Args: x}}
	f := api.Fn{
		Params: []api.Var{{Name: "a", Size: 99}},
		Body: []api.Stmt{
			{Kind: api.StFor, Name: "i", N: 1, Secret: true, Args: x, Then: []api.Stmt{
				{Kind: api.StLet, Name: "y", Args: []api.Expr{{Kind: api.ExName, N: 7, Name: "i", Args: x}}, Then: bad, Else: bad},
			}, Else: bad},
			{Kind: api.StSet, Name: "a", N: 9, Secret: true, Args: one, Then: bad, Else: bad},
			{Kind: api.StIf, Name: "x", N: 9, Secret: true, Args: one},
			{Kind: api.StRet, Name: "x", N: 9, Secret: true, Args: one, Then: bad, Else: bad},
		},
	}
	if err := label.Check(f); err != api.OK {
		t.Errorf("Check is %d", err)
	}
}

func TestCheckOfWhatNoTextSays(t *testing.T) {
	deep := api.Expr{Kind: api.ExNum}
	for range 1 << 12 {
		deep = api.Expr{Kind: api.ExTwo, N: api.OpAdd, Args: []api.Expr{deep, {Kind: api.ExNum}}}
	}
	for kind := -1; kind <= 8; kind++ {
		for _, args := range [][]api.Expr{nil, {{Kind: 9}}, {deep}, {{Kind: api.ExAt, Name: "t"}}, {{Kind: api.ExTwo}, {Kind: api.ExSel}, {}}} {
			s := api.Stmt{Kind: kind, N: math.MaxInt, Name: "t", Args: args}
			label.Check(api.Fn{Arrays: []api.Var{{Name: "t"}}, Body: []api.Stmt{s, s}})
			s.Name = "i"
			label.Check(api.Fn{Body: []api.Stmt{s, {Kind: api.StFor, Name: "j", N: math.MinInt, Then: []api.Stmt{s}}}})
			s.Then = []api.Stmt{{Kind: 99}}
			label.Check(api.Fn{Body: []api.Stmt{s}})
		}
	}
}
