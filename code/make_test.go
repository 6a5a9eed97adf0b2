package code_test

import (
	"bytes"
	"fmt"
	"math"
	"reflect"
	"slices"
	"strings"
	"testing"

	"evenpace/api"
	"evenpace/code"
	"evenpace/eval"
	"evenpace/flow"
	"evenpace/fold"
	"evenpace/label"
	"evenpace/lang"
	"evenpace/legal"
	"evenpace/lower"
	"evenpace/table"
)

func num(d, imm int) api.Instr {
	return api.Instr{Op: api.OpConst, D: d, Imm: imm}
}

func add(d, a, b int) api.Instr {
	return api.Instr{Op: api.OpAdd, D: d, A: a, B: b}
}

func jump(to int) api.Instr {
	return api.Instr{Op: api.OpJump, Imm: to}
}

func zero(a, to int) api.Instr {
	return api.Instr{Op: api.OpZero, A: a, Imm: to}
}

func ret(a int) api.Instr {
	return api.Instr{Op: api.OpRet, A: a}
}

func trap() api.Instr {
	return api.Instr{Op: api.OpTrap}
}

// list is instructions over many places, of which so many are given.
func list(params int, code ...api.Instr) api.Flat {
	return api.Flat{Code: code, Secret: make([]bool, 600), Params: params}
}

// even is a table by which all is seen, but for what all else can be done by.
func even() api.Table {
	return api.Table{Seen: [18]int{0, 0, 0, 0, 0, 0, 2, 2, 3, 3, 3, 3, 3, 7, 0, 0, 1, 1}}
}

func clone(f api.Flat) api.Flat {
	return api.Flat{Code: slices.Clone(f.Code), Secret: slices.Clone(f.Secret), Params: f.Params, Arrays: slices.Clone(f.Arrays)}
}

func sameEnd(a, b api.Ended) bool {
	return a.Word == b.Word && a.Trap == b.Trap && slices.EqualFunc(a.Arrays, b.Arrays, slices.Equal)
}

func sameLeaks(a, b []api.Leak) bool {
	return slices.EqualFunc(a, b, func(x, y api.Leak) bool {
		return x.At == y.At && x.Op == y.Op && slices.Equal(x.Values, y.Values)
	})
}

// brief tells instructions, the first ones of them.
func brief(f api.Flat) string {
	s := fmt.Sprint(f.Code, f.Params, f.Arrays)
	return s[:min(len(s), 800)]
}

// made is the image of f, which a machine would take.
func made(t *testing.T, f api.Flat) api.Image {
	t.Helper()
	img, err := code.Make(f)
	if err != api.OK {
		t.Fatalf("Make of %s is %d", brief(f), err)
	}
	if img.Params != f.Params || !slices.Equal(img.Arrays, f.Arrays) {
		t.Fatalf("Make of %s has %d, %v", brief(f), img.Params, img.Arrays)
	}
	if _, ok := plainRead(img); !ok {
		t.Fatalf("Make of %s has bytes that are none: %v", brief(f), img.Bytes)
	}
	return img
}

// runs has an image run in both modes, and end as it must, in the mode in which it began; it answers what is seen of both.
func runs(t *testing.T, img api.Image, tab api.Table, g api.Given, want api.Ended) [][]api.Leak {
	t.Helper()
	var seen [][]api.Leak
	for mode := range 2 {
		r := plainRun(img, tab, g, mode)
		if r.Err != api.OK || r.Mode != mode || !sameEnd(r.Ended, want) {
			t.Fatalf("%v, of %v, in mode %d, ends %v, %d in mode %d, not %v", img, g, mode, r.Ended, r.Err, r.Mode, want)
		}
		seen = append(seen, r.Leaks)
	}
	return seen
}

// other is g with other secrets.
func other(f api.Flat, g api.Given, n int) api.Given {
	h := api.Given{Words: slices.Clone(g.Words), Arrays: eval.Arrays(g.Arrays)}
	for k := range h.Words {
		if f.Secret[k] {
			h.Words[k] = (g.Words[k] + n*0x1234567 + k) & api.MaxWord
		}
	}
	for b, v := range f.Arrays {
		for k := range h.Arrays[b] {
			if v.Secret {
				h.Arrays[b][k] = (g.Arrays[b][k]*3 + n + k) & api.MaxWord
			}
		}
	}
	return h
}

// given has words that hang on n.
func given(f api.Flat, n int) api.Given {
	var g api.Given
	for k := range f.Params {
		g.Words = append(g.Words, []int{n * 7 % 11, n % 3, n << 30 & api.MaxWord, api.MaxWord - n}[(n+k)%4])
	}
	for b, v := range f.Arrays {
		l := make([]int, v.Size)
		for k := range l {
			l[k] = n*1000 + b*100 + k
		}
		g.Arrays = append(g.Arrays, l)
	}
	return g
}

func programs() []string {
	return []string{
		"(fn () ())",
		"(fn ((sec a)) () (ret (* a 3)))",
		"(fn ((sec a)) ())",
		"(fn ((pub a)) () (if a ((ret 1)) ((ret 2))))",
		"(fn () () (ret (+ (* 3 5) (% 7 4))))",
		"(fn ((sec a) (sec b)) () (ret (+ (* (/ a b) b) (% a b))))",
		"(fn ((pub a) (sec b)) ((sec t 4) (pub u 2)) (let sec x (+ a b)) (if x ((put t 1 x) (set x 3)) ((put t 2 b))) (put u (% a 2) (+ a 1)) (ret (^ x (at t 1))))",
		"(fn ((pub a)) ((pub t 2)) (if (< a 2) ((put t a 7)) ((ret (at t a)))) (ret (at t 1)))",
		"(fn ((sec k)) ((pub t 4)) (let sec x 0) (for i 4 (set x (sel (= i k) (at t i) x))) (ret x))",
		"(fn ((pub a)) ((pub t 2)) (let pub x 5) (if a ((set x (+ x x))) ((put t a x))) (let pub y (* x 2)) (if (< a 3) ((ret y)) ()) (ret (at t x)))",
		"(fn ((sec a) (sec b)) () (if (< a b) ((if (= a 1) ((set a 5)) ((set b a)))) ((set a (- a b)))) (ret (+ a b)))",
		"(fn ((pub a) (sec b)) () (let pub x 5) (if a ((set x 6)) ((set x 7))) (let sec y (sel (= x 6) b a)) (ret (- y x)))",
		"(fn ((sec a) (pub b)) () (let sec x (>> a b)) (set x (<< x a)) (if (< x 9) ((if b ((set x (| x 256))) ())) ()) (ret (& x 65535)))",
		"(fn () () (for i 3 (for j 2 (let pub x (* i j)))))",
		"(fn ((pub a) (pub b)) ((sec t 8) (pub u 8) (sec v 1)) (put t a (at u b)) (put u b a) (put v 0 (at t (& b 7))) (ret (at v (% a 3))))",
	}
}

// flats has what a program comes to, by a table: as it was laid flat, if nothing secret is seen of that, and done otherwise, folded and not.
func flats(t *testing.T, s string, tab api.Table) (api.Fn, []api.Flat) {
	t.Helper()
	f, err := lang.Parse(s)
	if err != api.OK || label.Check(f) != api.OK {
		t.Fatalf("%q is no right program", s)
	}
	x, err := lower.Lower(f)
	if err != api.OK {
		t.Fatalf("%q, flat, is %d", s, err)
	}
	y, err := legal.Legal(x, tab)
	if err != api.OK {
		return f, nil
	}
	z, err := legal.Legal(fold.Fold(x), tab)
	if err != api.OK {
		t.Fatalf("%q, folded, is %d", s, err)
	}
	return f, []api.Flat{y, fold.Numbers(y), fold.Used(y), fold.Fold(y), z}
}

// As bytes it is the same, and even.
func TestProgramsAsBytes(t *testing.T) {
	n := 0
	for _, what := range []string{"", "mul 3\ndiv 1\nless 2\nsel 1\n", "shl 2\nshr 2\nmul 3\ndiv 3\nrem 3\nless 3\nsame 3\nsel 7\nload 1\nstore 1\n", "add 1\n", "xor 2\nstore 2\n", "move 1\n"} {
		tab, err := table.Parse(what)
		if err != api.OK {
			t.Fatalf("%q is no table", what)
		}
		for _, s := range programs() {
			p, l := flats(t, s, tab)
			for _, f := range l {
				n++
				img := made(t, f)
				for k := range 20 {
					g := given(f, k)
					want, _ := eval.Run(p, g)
					seen := runs(t, img, tab, g, want)
					h := other(f, g, k)
					want, _ = eval.Run(p, h)
					for mode, now := range runs(t, img, tab, h, want) {
						if !sameLeaks(now, seen[mode]) {
							t.Fatalf("%q, in mode %d, shows a secret, of %v and %v", s, mode, g, h)
						}
					}
				}
			}
		}
	}
	if n < 250 {
		t.Errorf("only %d are made", n)
	}
}

// Right instructions that show what is secret are made as well: they end as they do.
func TestWhatShowsASecretIsMade(t *testing.T) {
	for _, s := range programs() {
		p, _ := lang.Parse(s)
		f, _ := lower.Lower(p)
		for k := range 20 {
			g := given(f, k)
			want, _ := eval.Run(p, g)
			runs(t, made(t, f), even(), g, want)
		}
	}
}

// wantPlain has nothing more be laid than to put the mode on, and back ahead of each end.
func wantPlain(t *testing.T, f api.Flat) {
	t.Helper()
	ends := 0
	for _, i := range f.Code {
		if i.Op == api.OpRet || i.Op == api.OpTrap {
			ends++
		}
	}
	if img := made(t, f); len(img.Bytes) != 8*(len(f.Code)+1+ends) {
		t.Errorf("%s has %d bytes", brief(f), len(img.Bytes))
	}
}

// What a program comes to makes all that it reads: there nothing needs to be made a nought.
func TestNothingIsMadeANoughtForNothing(t *testing.T) {
	for _, s := range programs() {
		_, l := flats(t, s, even())
		for _, f := range l {
			wantPlain(t, f)
		}
	}
	// What is led past is not read from there on: it ends, leads past that as well, or makes it anew.
	wantPlain(t, list(1, zero(0, 2), num(2, 1), ret(0), ret(2)))
	wantPlain(t, list(1, zero(0, 2), num(2, 1), trap(), ret(2)))
	wantPlain(t, list(1, zero(0, 2), num(2, 1), jump(4), ret(2), ret(0)))
	wantPlain(t, list(1, zero(0, 3), num(2, 1), ret(2), num(2, 3), ret(2)))
	// What is given is there from the beginning on, wherever it is mentioned.
	wantPlain(t, list(2, zero(0, 2), add(1, 1, 1), ret(1)))
}

// Where a secret is in a slot in a mode in which all is seen, it would be seen: the mode is on ahead of all else.
func TestTheModeIsOnFromTheFirstStepOn(t *testing.T) {
	for _, f := range []api.Flat{
		{Code: []api.Instr{add(1, 0, 0), ret(1)}, Secret: []bool{true, true}, Params: 1},
		{Code: []api.Instr{add(1, 0, 0), trap()}, Secret: []bool{true, true}, Params: 1},
		{Code: []api.Instr{{Op: api.OpStore, A: 1}, {Op: api.OpLoad, D: 2, A: 1}, {Op: api.OpSel, D: 2, A: 2, B: 0, C: 2}, ret(2)}, Secret: []bool{true, false, true}, Params: 1, Arrays: []api.Var{{Secret: true, Size: 1}}},
	} {
		img := made(t, f)
		g := given(f, 1)
		seen := runs(t, img, api.Table{}, g, plainDone(f, g))
		for n := range 10 {
			h := other(f, g, n+2)
			for mode, now := range runs(t, img, api.Table{}, h, plainDone(f, h)) {
				if !sameLeaks(now, seen[mode]) {
					t.Errorf("%s shows a secret in mode %d: %v, and %v", brief(f), mode, now, seen[mode])
				}
			}
		}
	}
}

// consts makes places from one up to another.
func consts(from, to int) []api.Instr {
	var l []api.Instr
	for p := from; p < to; p++ {
		l = append(l, num(p, p+1000))
	}
	return l
}

// sums reads places from one up to another, and adds them to one that was made.
func sums(into, from, to int) []api.Instr {
	var l []api.Instr
	for p := from; p < to; p++ {
		l = append(l, add(into, into, p))
	}
	return l
}

func wantMuch(t *testing.T, f api.Flat) {
	t.Helper()
	if err, at := flow.Check(f); err != api.OK {
		t.Fatalf("%s is not right: %d at %d", brief(f), err, at)
	}
	if img, err := code.Make(f); err != api.ErrMuch || !reflect.DeepEqual(img, api.Image{}) {
		t.Errorf("Make of %s, of which %d places are needed at once, is %d bytes, %d", brief(f), atOnce(f), len(img.Bytes), err)
	}
}

// wantMade has f be made, and run as it does.
func wantMade(t *testing.T, f api.Flat) {
	t.Helper()
	if err, at := flow.Check(f); err != api.OK {
		t.Fatalf("%s is not right: %d at %d", brief(f), err, at)
	}
	img := made(t, f)
	for n := range 6 {
		g := given(f, n)
		runs(t, img, api.Table{}, g, plainDone(f, g))
	}
	// The first ones that are given are noughts, or not, whichever the others are.
	for n := range 8 {
		g := given(f, n)
		for k := range min(len(g.Words), 3) {
			g.Words[k] = n >> k & 1 * (n + 7)
		}
		runs(t, img, api.Table{}, g, plainDone(f, g))
	}
}

func TestAsManyPlacesAsMayBe(t *testing.T) {
	const most = api.MaxSlots - 1
	for _, n := range []int{most - 1, most, most + 1, most + 2, 2 * most} {
		want := wantMade
		if n > most {
			want = wantMuch
		}
		// All of them are needed where the last one is made.
		want(t, list(0, slices.Concat(consts(0, n), sums(0, 1, n), []api.Instr{ret(0)})...))
		// What is given is needed from the beginning on.
		want(t, list(4, slices.Concat(consts(4, n), sums(3, 0, n), []api.Instr{ret(3)})...))
		want(t, list(4, slices.Concat(consts(4, n), sums(4, 0, n), []api.Instr{ret(4)})...))
		// One is made of two where these are mentioned last: it is needed at once with them.
		want(t, list(0, slices.Concat(consts(0, n-1), []api.Instr{add(n-1, 0, 1)}, sums(n-1, 2, n-1), []api.Instr{ret(n - 1)})...))
		want(t, list(1, slices.Concat(consts(1, n-1), []api.Instr{add(n-1, 0, 0)}, sums(n-1, 1, n-1), []api.Instr{ret(n - 1)})...))
		// What is made last where it is not read is needed up to there.
		want(t, list(0, slices.Concat(consts(0, n), consts(0, n), []api.Instr{trap()})...))
		// All of them are given.
		want(t, list(n, trap()))
		want(t, list(n, slices.Concat(sums(0, 1, n), []api.Instr{ret(0)})...))
		want(t, list(n, slices.Concat(sums(n-1, 0, n-1), []api.Instr{ret(n - 1)})...))
		// What is written ahead of being read, and ahead of a jump, is needed over all of it.
		want(t, list(1, slices.Concat([]api.Instr{zero(0, n)}, consts(1, n), sums(0, 1, n), []api.Instr{ret(0)})...))
	}
}

// Many places, but few at once.
func TestManyPlacesInTurn(t *testing.T) {
	wantMade(t, list(0, append(consts(0, 600), trap())...))
	var chain []api.Instr
	for p := range 599 {
		chain = append(chain, add(p+1, p, p))
	}
	wantMade(t, list(1, append(chain, ret(599))...))
	// What is given is needed no more behind where it is mentioned last; if it is not, behind the beginning.
	const most = api.MaxSlots - 1
	wantMade(t, list(most, slices.Concat(consts(most, 2*most), sums(most, most+1, 2*most), []api.Instr{ret(most)})...))
	wantMade(t, list(2, slices.Concat([]api.Instr{add(2, 0, 1)}, consts(3, most+2), sums(2, 3, most+2), []api.Instr{ret(2)})...))
	wantMuch(t, list(2, slices.Concat([]api.Instr{add(2, 0, 1)}, consts(3, most+3), sums(2, 3, most+3), []api.Instr{ret(2)})...))
	// Places above a byte, but one slot.
	wantMade(t, list(0, num(599, 7), num(300, 8), add(256, 300, 599), ret(256)))
	f := api.Flat{Code: []api.Instr{num(1<<22, 3), add(1<<21, 1<<22, 0), ret(1 << 21)}, Secret: make([]bool, 1<<22+1), Params: 1}
	wantMade(t, f)
}

// Fields that mean nothing are no places, and need no bytes.
func TestFieldsThatMeanNothing(t *testing.T) {
	far := api.Instr{D: -1, A: math.MaxInt, B: 1 << 40, C: math.MinInt, Imm: -1}
	with := func(i api.Instr, keep ...func(to, from *api.Instr)) api.Instr {
		out := far
		out.Op = i.Op
		for _, k := range keep {
			k(&out, &i)
		}
		return out
	}
	d := func(to, from *api.Instr) { to.D = from.D }
	a := func(to, from *api.Instr) { to.A = from.A }
	b := func(to, from *api.Instr) { to.B = from.B }
	c := func(to, from *api.Instr) { to.C = from.C }
	imm := func(to, from *api.Instr) { to.Imm = from.Imm }
	code := []api.Instr{
		with(num(2, 1), d, imm),
		with(add(3, 1, 2), d, a, b),
		with(api.Instr{Op: api.OpMove, D: 4, A: 3}, d, a),
		with(api.Instr{Op: api.OpSel, D: 4, A: 1, B: 4, C: 2}, d, a, b, c),
		with(api.Instr{Op: api.OpStore, D: 4, A: 2, B: 1}, d, a, b),
		with(api.Instr{Op: api.OpLoad, D: 5, A: 2, B: 1}, d, a, b),
		with(zero(1, 8), a, imm),
		with(jump(9), imm),
		with(trap()),
		with(ret(5), a),
	}
	f := api.Flat{Code: code, Secret: make([]bool, 6), Params: 2, Arrays: []api.Var{{Size: 1}, {Size: 2}}}
	wantMade(t, f)
	for k := range 400 {
		// None of these is mentioned, though they are places, too.
		code = slices.Insert(code, 0, api.Instr{Op: api.OpConst, D: 5, A: 100 + k%400, B: 101, C: 102, Imm: k})
	}
	for k := range code {
		if code[k].Op == api.OpJump || code[k].Op == api.OpZero {
			code[k].Imm += 400
		}
	}
	f.Code, f.Secret = code, make([]bool, 600)
	wantMade(t, f)
}

// Places are noughts at first, whoever had their slots.
func TestNoughtsAtFirst(t *testing.T) {
	for _, f := range []api.Flat{
		list(0, ret(0)),
		list(0, ret(599)),
		list(2, add(2, 0, 1), ret(3)),
		list(2, add(2, 0, 1), ret(1)),
		list(2, add(2, 2, 0), add(3, 3, 1), add(4, 4, 2), add(5, 3, 4), ret(5)),
		list(1, num(1, 5), num(2, 6), num(3, 7), api.Instr{Op: api.OpSel, D: 4, A: 0, B: 5, C: 6}, ret(4)),
		// On one way only it was made; what is led past had a slot, and leaves something there.
		list(1, num(1, 5), zero(0, 4), add(1, 1, 1), num(2, 3), add(3, 2, 2), ret(3)),
		list(1, num(1, 5), zero(0, 4), add(1, 1, 1), num(2, 3), ret(2)),
		list(1, num(1, 5), num(3, 5), add(3, 3, 3), zero(0, 6), add(1, 1, 1), num(2, 3), add(4, 2, 2), ret(4)),
		list(1, num(1, 5), add(1, 1, 1), jump(5), num(2, 3), trap(), ret(2)),
		list(1, num(1, 5), jump(3), num(2, 3), jump(4), add(2, 2, 2), ret(2)),
		// Who leads past it still reads what had its slot, if it does not lead.
		list(1, num(1, 5), zero(0, 5), add(3, 1, 1), num(2, 3), add(2, 2, 3), ret(2)),
		list(2, num(2, 5), zero(0, 6), zero(1, 5), add(4, 2, 2), num(3, 3), add(3, 3, 3), ret(3)),
		// It is read where several lead, some of which have made it.
		list(3, num(3, 9), add(3, 3, 3), zero(0, 6), num(4, 4), zero(1, 7), zero(2, 7), add(4, 4, 4), ret(4)),
		// It is read behind another one that leads, on one of its ways.
		list(2, num(2, 5), add(2, 2, 2), zero(0, 4), num(3, 3), zero(1, 6), ret(3), ret(0)),
		list(2, num(2, 5), add(2, 2, 2), zero(0, 4), num(3, 3), zero(1, 6), ret(0), ret(3)),
		list(2, num(2, 5), add(2, 2, 2), zero(0, 4), num(3, 3), jump(6), ret(0), ret(3)),
		// It is made ahead of being read, whoever leads there.
		list(1, num(1, 9), zero(0, 4), add(2, 1, 1), add(2, 2, 2), num(2, 1), ret(2)),
		list(1, num(1, 9), zero(1, 3), jump(3), num(2, 4), zero(0, 6), add(2, 2, 2), ret(2)),
	} {
		wantMade(t, f)
	}
}

// A nought that is public is no secret, though a secret was where it is now.
func TestNoughtsShowNoSecret(t *testing.T) {
	f := api.Flat{Secret: []bool{true, false, false, true, false}, Params: 2, Code: []api.Instr{
		add(3, 0, 0),
		zero(1, 4),
		add(3, 3, 3),
		num(2, 7),
		{Op: api.OpMul, D: 4, A: 2, B: 2},
		{Op: api.OpMul, D: 4, A: 4, B: 2},
		ret(2),
	}}
	tab := api.Table{}
	tab.Seen[api.OpMul] = 3
	img := made(t, f)
	for n := range 6 {
		g := given(f, n)
		seen := runs(t, img, tab, g, plainDone(f, g))
		for mode, now := range runs(t, img, tab, other(f, g, n+1), plainDone(f, g)) {
			if !sameLeaks(now, seen[mode]) {
				t.Errorf("of %v a secret is seen", g)
			}
		}
	}
}

// As many as may be are done within 2 times MaxCode steps, wherever they end.
func TestOfAsManyAsMayBe(t *testing.T) {
	f := list(1)
	for at := range api.MaxCode - 1 {
		f.Code = append(f.Code, []api.Instr{zero(0, at+1), add(1, 0, 0), jump(at + 1)}[at%3])
	}
	f.Code = append(f.Code, ret(1))
	wantMade(t, f)
	for at := range f.Code {
		f.Code[at] = trap()
	}
	wantMade(t, f)
	for at := range api.MaxCode - 1 {
		f.Code[at] = zero(0, api.MaxCode-1-at%2*(api.MaxCode-2-at))
	}
	wantMade(t, f)
	// As many places at once as may be, all over it, to each of which others lead.
	const most = api.MaxSlots - 1
	for at := range api.MaxCode - 1 {
		f.Code[at] = zero(at*7%most, at+1+at%5%(api.MaxCode-1-at))
	}
	wantMade(t, f)
}

func TestMakeOnlyReads(t *testing.T) {
	for _, s := range programs() {
		p, _ := lang.Parse(s)
		f, _ := lower.Lower(p)
		want := made(t, f)
		code2 := append(slices.Clip(f.Code), ret(77))
		secret := append(slices.Clip(f.Secret), true)
		vars := append(slices.Clip(f.Arrays), api.Var{Name: "zap"})
		in := api.Flat{Code: code2[:len(f.Code)], Secret: secret[:len(f.Secret)], Params: f.Params, Arrays: vars[:len(f.Arrays)]}
		whole := api.Flat{Code: code2, Secret: secret, Arrays: vars}
		was := clone(whole)
		got := made(t, in)
		if !reflect.DeepEqual(whole, was) {
			t.Fatalf("%q: what is handed in is changed", s)
		}
		for k := range code2 {
			code2[k] = trap()
		}
		for k := range vars {
			vars[k] = api.Var{Name: "no"}
		}
		for k := range secret {
			secret[k] = !secret[k]
		}
		if !bytes.Equal(got.Bytes, want.Bytes) || !slices.Equal(got.Arrays, want.Arrays) {
			t.Fatalf("%q: the image hangs on what was handed in", s)
		}
		// What is answered is the caller's, its spare room too.
		for _, l := range [][]api.Var{got.Arrays[:cap(got.Arrays)]} {
			for k := range l {
				l[k].Name = "mine"
			}
		}
		if slices.ContainsFunc(vars, func(v api.Var) bool { return v.Name == "mine" }) {
			t.Fatalf("%q: arrays are shared", s)
		}
	}
}

func TestTheSameEachTime(t *testing.T) {
	for _, s := range programs() {
		_, l := flats(t, s, even())
		for _, f := range l {
			for range 3 {
				if !reflect.DeepEqual(made(t, f), made(t, clone(f))) {
					t.Fatalf("%q is made otherwise each time", s)
				}
			}
		}
	}
}

func TestNilAndEmptyAreTheSame(t *testing.T) {
	f := api.Flat{Code: []api.Instr{trap()}}
	g := api.Flat{Code: []api.Instr{trap()}, Secret: []bool{}, Arrays: []api.Var{}}
	if x, y := made(t, f), made(t, g); !bytes.Equal(x.Bytes, y.Bytes) || len(x.Arrays)+len(y.Arrays) != 0 {
		t.Errorf("nil and empty differ: %v, %v", x, y)
	}
}

// Of what is not right nothing is promised, but that it ends, and that nothing stands beside an error.
func TestWhatIsNotRight(t *testing.T) {
	for _, f := range []api.Flat{
		{},
		{Code: []api.Instr{}},
		{Code: []api.Instr{add(0, 0, 0)}},
		{Code: []api.Instr{add(0, 0, 0), trap()}},
		{Code: []api.Instr{ret(-1)}, Secret: []bool{false}},
		{Code: []api.Instr{jump(0), trap()}},
		{Code: []api.Instr{jump(-5), trap()}},
		{Code: []api.Instr{zero(0, 9), trap()}, Secret: []bool{false}},
		{Code: []api.Instr{zero(0, 1), trap()}, Secret: []bool{true}},
		{Code: []api.Instr{{Op: api.OpLoad}, trap()}, Secret: []bool{false}},
		{Code: []api.Instr{{Op: api.OpStore, B: -1}, trap()}, Secret: []bool{false}},
		{Code: []api.Instr{num(0, -1), trap()}, Secret: []bool{false}},
		{Code: []api.Instr{num(0, 1<<32), trap()}, Secret: []bool{false}},
		{Code: []api.Instr{{Op: api.OpOn}, {Op: api.OpBack}, trap()}, Secret: []bool{false}},
		{Code: []api.Instr{{Op: math.MinInt}, {Op: math.MaxInt}}, Secret: []bool{true}},
		{Code: []api.Instr{trap()}, Params: math.MaxInt},
		{Code: []api.Instr{trap()}, Params: math.MinInt},
		{Code: []api.Instr{trap()}, Params: 1},
		{Code: slices.Repeat([]api.Instr{trap()}, api.MaxCode+1)},
	} {
		if img, err := code.Make(f); err == api.OK || !reflect.DeepEqual(img, api.Image{}) {
			t.Errorf("Make of %s, which is not right, is %v, %d", brief(f), img, err)
		}
	}
	// An array that no byte tells of; programs have no such.
	f := api.Flat{Code: []api.Instr{{Op: api.OpLoad, B: 256}, trap()}, Secret: []bool{false}, Arrays: make([]api.Var, 257)}
	if img, err := code.Make(f); err != api.ErrRange || !reflect.DeepEqual(img, api.Image{}) {
		t.Errorf("Make of what has too many arrays is %v, %d", img, err)
	}
	g := api.Flat{Code: []api.Instr{trap()}, Secret: make([]bool, 1<<22), Params: 1 << 22}
	if _, err := code.Make(g); err != api.ErrMuch {
		t.Errorf("Make of what is given far too much is %d", err)
	}
}

// The greatest programs need few slots: of those there is always an image.
func TestTheGreatestPrograms(t *testing.T) {
	deep := func(open, leaf string, n int) string {
		e := leaf
		for range n {
			e = strings.ReplaceAll(open, "?", e)
		}
		return e
	}
	var lets, last strings.Builder
	for k := range api.MaxLets {
		x := string([]byte{'v', byte('a' + k)})
		lets.WriteString("(let sec " + x + " (+ d " + string([]byte{byte('0' + k%10)}) + "))")
	}
	for k := range api.MaxLets {
		last.WriteString("(set a (+ a v" + string([]byte{byte('a' + k)}) + "))")
	}
	head := "(fn ((sec a) (sec b) (sec c) (sec d)) ((sec t 8) (sec u 8) (sec v 8)) "
	for _, s := range []string{
		head + lets.String() + last.String() + "(ret a))",
		head + lets.String() + "(ret " + deep("(+ a ?)", "(* b c)", 6) + "))",
		head + lets.String() + "(ret " + deep("(sel b c ?)", "(- b c)", 6) + "))",
		head + lets.String() + "(ret " + deep("(sel (& b 1) (at t 3) ?)", "(/ va vx)", 5) + "))",
		head + lets.String() + "(if va ((if vb ((if vc ((set a (% a vx))) ((set a 3)))) ((set b (* b va))))) ()) (ret (+ a b)))",
	} {
		_, l := flats(t, s, even())
		for _, f := range l {
			n := atOnce(f)
			if n > 60 {
				t.Errorf("%q needs %d places at once", s, n)
			}
			wantMade(t, f)
		}
		if len(l) == 0 {
			t.Errorf("%q is not done otherwise", s)
		}
	}
}
