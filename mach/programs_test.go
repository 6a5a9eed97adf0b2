package mach_test

import (
	"slices"
	"testing"

	"evenpace/api"
	"evenpace/code"
	"evenpace/eval"
	"evenpace/fold"
	"evenpace/label"
	"evenpace/lang"
	"evenpace/legal"
	"evenpace/lower"
	"evenpace/mach"
	"evenpace/table"
)

func programs() []string {
	return []string{
		"(fn () ())",
		"(fn ((sec a)) () (ret (* a 3)))",
		"(fn ((pub a)) () (if a ((ret 1)) ((ret 2))))",
		"(fn ((sec a) (sec b)) () (ret (+ (* (/ a b) b) (% a b))))",
		"(fn ((pub a) (sec b)) ((sec t 4) (pub u 2)) (let sec x (+ a b)) (if x ((put t 1 x) (set x 3)) ((put t 2 b))) (put u (% a 2) (+ a 1)) (ret (^ x (at t 1))))",
		"(fn ((pub a)) ((pub t 2)) (if (< a 2) ((put t a 7)) ((ret (at t a)))) (ret (at t 1)))",
		"(fn ((sec k)) ((pub t 4)) (let sec x 0) (for i 4 (set x (sel (= i k) (at t i) x))) (ret x))",
		"(fn ((pub a)) ((pub t 2)) (let pub x 5) (if a ((set x (+ x x))) ((put t a x))) (let pub y (* x 2)) (if (< a 3) ((ret y)) ()) (ret (at t x)))",
		"(fn ((sec a) (sec b)) () (if (< a b) ((if (= a 1) ((set a 5)) ((set b a)))) ((set a (- a b)))) (ret (+ a b)))",
		"(fn ((sec a) (pub b)) () (let sec x (>> a b)) (set x (<< x a)) (if (< x 9) ((if b ((set x (| x 256))) ())) ()) (ret (& x 65535)))",
		"(fn () () (for i 3 (for j 2 (let pub x (* i j)))))",
		"(fn ((pub a) (pub b)) ((sec t 8) (pub u 8) (sec v 1)) (put t a (at u b)) (put u b a) (put v 0 (at t (& b 7))) (ret (at v (% a 3))))",
	}
}

// given has words that hang on n.
func given(f api.Fn, n int) api.Given {
	var g api.Given
	for k := range f.Params {
		g.Words = append(g.Words, []int{n * 7 % 11, n % 3, n << 30 & api.MaxWord, api.MaxWord - n}[(n+k)%4])
	}
	for b, v := range f.Arrays {
		l := make([]int, v.Size)
		for k := range l {
			l[k] = n*1000 + b*100 + k
		}
		g.Arrays = append(g.Arrays, l)
	}
	return g
}

// other is g with other secrets.
func other(f api.Fn, g api.Given, n int) api.Given {
	h := api.Given{Words: slices.Clone(g.Words), Arrays: eval.Arrays(g.Arrays)}
	for k, v := range f.Params {
		if v.Secret {
			h.Words[k] = (g.Words[k] + n*0x1234567 + k) & api.MaxWord
		}
	}
	for b, v := range f.Arrays {
		for k := range h.Arrays[b] {
			if v.Secret {
				h.Arrays[b][k] = (g.Arrays[b][k]*3 + n + k) & api.MaxWord
			}
		}
	}
	return h
}

// made has the images that a program comes to, folded and not; none, if there is no way by the table.
func made(t *testing.T, f api.Fn, tab api.Table) []api.Image {
	t.Helper()
	x, err := lower.Lower(f)
	if err != api.OK {
		t.Fatalf("flat it is %d", err)
	}
	var out []api.Image
	for _, y := range []api.Flat{x, fold.Fold(x)} {
		z, err := legal.Legal(y, tab)
		if err == api.ErrTable {
			continue
		}
		m, e := code.Make(z)
		if err != api.OK || e != api.OK {
			t.Fatalf("done otherwise it is %d, made %d", err, e)
		}
		out = append(out, m)
	}
	return out
}

// runsEvenly has an image end as the program does, in the mode in which it began; of it the same is seen in both modes, whatever is secret.
func runsEvenly(t *testing.T, f api.Fn, m api.Image, tab api.Table, n int) {
	t.Helper()
	g := given(f, n)
	first := mach.Run(m, tab, g, 0, 2*api.MaxCode)
	for _, h := range []api.Given{g, other(f, g, n+1), other(f, g, 3*n+7)} {
		want, _ := eval.Run(f, h)
		for mode := range 2 {
			r := mach.Run(m, tab, h, mode, 2*api.MaxCode)
			if r.Err != api.OK || r.Mode != mode || !sameEnd(r.Ended, want) {
				t.Fatalf("%s, of %v, in mode %d, ends %v, %d, in mode %d, not %v", lang.Print(f), h, mode, r.Ended, r.Err, r.Mode, want)
			}
			if r.Steps != len(r.Leaks) || !sameLeaks(r.Leaks, first.Leaks) {
				t.Fatalf("%s, in mode %d, shows a secret, of %v and %v", lang.Print(f), mode, g, h)
			}
		}
	}
}

// Programs end on a machine as they do, and nothing that is seen hangs on what is secret.
func TestProgramsRunAsImages(t *testing.T) {
	n := 0
	for _, what := range []string{"", "mul 3\ndiv 1\nless 2\nsel 1\n", "shl 2\nshr 2\nmul 3\ndiv 3\nrem 3\nless 3\nsame 3\nsel 7\nload 1\nstore 1\n", "add 1\n", "xor 2\nstore 2\n"} {
		tab, err := table.Parse(what)
		if err != api.OK {
			t.Fatalf("%q is no table", what)
		}
		for _, s := range programs() {
			f, err := lang.Parse(s)
			if err != api.OK || label.Check(f) != api.OK {
				t.Fatalf("%q is no right program", s)
			}
			for _, m := range made(t, f, tab) {
				n++
				for k := range 12 {
					runsEvenly(t, f, m, tab, k)
				}
			}
		}
	}
	if n < 80 {
		t.Errorf("only %d are made", n)
	}
}

// What was not done otherwise is seen: by the table, where the mode is on.
func TestWhatIsSeenOfAProgram(t *testing.T) {
	f, _ := lang.Parse("(fn ((sec a)) () (ret (* a 3)))")
	x, _ := lower.Lower(f)
	m, err := code.Make(x)
	if err != api.OK {
		t.Fatal(err)
	}
	products := func(tab api.Table, mode int) [][]int {
		var out [][]int
		for _, l := range mach.Run(m, tab, api.Given{Words: []int{5}}, mode, 20).Leaks {
			if l.Op == api.OpMul {
				out = append(out, l.Values)
			}
		}
		return out
	}
	for mode := range 2 {
		for seen, want := range [][]int{{}, {5}, {3}, {5, 3}} {
			if got := products(one(api.OpMul, seen), mode); len(got) != 1 || !slices.Equal(got[0], want) {
				t.Errorf("in mode %d, of %d, %v is seen, not %v", mode, seen, got, want)
			}
		}
	}
}
