package drive_test

import (
	"slices"
	"strings"
	"testing"

	"evenpace/api"
	"evenpace/drive"
	"evenpace/eval"
	"evenpace/lang"
	"evenpace/mach"
	"evenpace/table"
)

// mostSeen is a table by which all is seen but what all else can be done by.
const mostSeen = "shl 2\nshr 2\nmul 3\ndiv 3\nrem 3\nless 3\nsame 3\nsel 7\nload 1\nstore 1\n"

func program(t *testing.T, text string) api.Fn {
	t.Helper()
	f, err := lang.Parse(text)
	if err != api.OK {
		t.Fatalf("%q is no program: %d", text, err)
	}
	return f
}

func made(t *testing.T, what, text string) api.Image {
	t.Helper()
	m, err := drive.Make(what, text)
	if err != api.OK {
		t.Fatalf("Make of %q, by %q, is %d", text, what, err)
	}
	return m
}

func isNothing(m api.Image) bool {
	return len(m.Bytes) == 0 && m.Params == 0 && len(m.Arrays) == 0
}

func sameEnd(a, b api.Ended) bool {
	return a.Word == b.Word && a.Trap == b.Trap && slices.EqualFunc(a.Arrays, b.Arrays, slices.Equal[[]int])
}

func sameLeaks(a, b []api.Leak) bool {
	return slices.EqualFunc(a, b, func(x, y api.Leak) bool {
		return x.At == y.At && x.Op == y.Op && slices.Equal(x.Values, y.Values)
	})
}

func sameRan(a, b api.Ran) bool {
	return sameEnd(a.Ended, b.Ended) && a.Err == b.Err && a.Steps == b.Steps && a.Mode == b.Mode && sameLeaks(a.Leaks, b.Leaks)
}

// wantErr has a run tell err, and nothing beside it.
func wantErr(t *testing.T, what, text string, g api.Given, mode int, err api.Errno) {
	t.Helper()
	if r := drive.Run(what, text, g, mode); !sameRan(r, api.Ran{Err: err}) {
		t.Errorf("Run of %q, by %q, of %v, in mode %d, is %v, not %d alone", text, what, g, mode, r, err)
	}
}

// runsEvenly has a text end as its program does, in the mode in which it began, of g, and of other, in which secrets alone differ; of all of these the same is seen. It answers one of them.
func runsEvenly(t *testing.T, what, text string, g, other api.Given) api.Ran {
	t.Helper()
	f := program(t, text)
	first := drive.Run(what, text, g, 0)
	for _, h := range []api.Given{g, other} {
		want, _ := eval.Run(f, h)
		for mode := range 2 {
			r := drive.Run(what, text, h, mode)
			if r.Err != api.OK || !sameEnd(r.Ended, want) || r.Mode != mode || r.Steps != len(r.Leaks) {
				t.Fatalf("Run of %q, by %q, of %v, in mode %d, is %v, %d, in mode %d, not %v", text, what, h, mode, r.Ended, r.Err, r.Mode, want)
			}
			if !sameLeaks(r.Leaks, first.Leaks) {
				t.Fatalf("Run of %q, by %q, in mode %d, shows a secret, of %v and %v", text, what, mode, g, h)
			}
		}
	}
	return first
}

// came is a program's text, what it is given, and how it ends. What is wanted is written out, so that no fault of chapter 5 is shared.
type came struct {
	text   string
	words  []int
	arrays [][]int
	want   api.Ended
}

func list(l ...int) []int { return l }

func lists(l ...[]int) [][]int { return l }

func ends(n int, arrays ...[]int) api.Ended {
	return api.Ended{Word: n, Arrays: arrays}
}

func falls(arrays ...[]int) api.Ended {
	return api.Ended{Trap: true, Arrays: arrays}
}

func known() []came {
	const (
		many   = "(fn ((pub a) (sec b)) ((sec t 4) (pub u 2)) (let sec x (+ a b)) (if x ((put t 1 x) (set x 3)) ((put t 2 b))) (put u (% a 2) (+ a 1)) (ret (^ x (at t 1))))"
		early  = "(fn ((pub a)) ((pub t 2)) (if (< a 2) ((put t a 7)) ((ret (at t a)))) (ret (at t 1)))"
		choice = "(fn ((sec a) (sec b)) () (if (< a b) ((if (= a 1) ((set a 5)) ((set b a)))) ((set a (- a b)))) (ret (+ (* a 100) b)))"
		moved  = "(fn ((sec a) (pub b)) () (ret (| (<< a b) (>> a (- 0 b)))))"
	)
	return []came{
		{"(fn () ())", nil, nil, ends(0)},
		{"(fn () ((sec t 1)))", nil, lists(list(9)), ends(0, list(9))},
		{"(fn ((sec a)) () (ret (* a 3)))", list(5), nil, ends(15)},
		{"(fn ((sec a) (sec b)) () (ret (* a b)))", list(api.MaxWord, api.MaxWord), nil, ends(1)},
		{"(fn ((sec a) (sec b)) () (ret (/ a b)))", list(100, 7), nil, ends(14)},
		{"(fn ((sec a) (sec b)) () (ret (/ a b)))", list(7, 0), nil, ends(api.MaxWord)},
		{"(fn ((sec a) (sec b)) () (ret (+ 1 (% a b))))", list(100, 7), nil, ends(3)},
		{"(fn ((sec a) (sec b)) () (ret (+ 1 (% a b))))", list(7, 0), nil, ends(8)},
		{many, list(3, 4), lists(list(10, 11, 12, 13), list(20, 21)), ends(4, list(10, 7, 12, 13), list(20, 4))},
		{many, list(0, 0), lists(list(10, 11, 12, 13), list(20, 21)), ends(11, list(10, 11, 0, 13), list(1, 21))},
		{early, list(0), lists(list(5, 6)), ends(6, list(7, 6))},
		{early, list(1), lists(list(5, 6)), ends(7, list(5, 7))},
		{early, list(2), lists(list(5, 6)), falls(list(5, 6))},
		{choice, list(1, 9), nil, ends(509)},
		{choice, list(3, 9), nil, ends(303)},
		{choice, list(9, 3), nil, ends(603)},
		{moved, list(0x80000001, 4), nil, ends(0x18)},
		{moved, list(0x80000001, 0), nil, ends(0x80000001)},
		{"(fn ((sec k)) ((pub t 4)) (let sec x 0) (for i 4 (set x (sel (= i k) (at t i) x))) (ret x))", list(2), lists(list(6, 7, 8, 9)), ends(8, list(6, 7, 8, 9))},
		{"(fn ((pub n)) ((pub t 8)) (for i 8 (put t i (* i n))) (put t n 1))", list(8), lists(list(0, 0, 0, 0, 0, 0, 0, 0)), falls(list(0, 8, 16, 24, 32, 40, 48, 56))},
	}
}

func TestTextsRun(t *testing.T) {
	for _, what := range []string{"", "mul 3\ndiv 1\nless 2\nsel 1\n", "store 1\n", mostSeen} {
		for _, x := range known() {
			for mode := range 2 {
				r := drive.Run(what, x.text, api.Given{Words: x.words, Arrays: x.arrays}, mode)
				if r.Err != api.OK || !sameEnd(r.Ended, x.want) || r.Mode != mode || r.Steps == 0 || r.Steps != len(r.Leaks) {
					t.Errorf("Run of %q, by %q, of %v %v, in mode %d, is %v, not %v", x.text, what, x.words, x.arrays, mode, r, x.want)
				}
			}
		}
	}
}

// Thrice a secret 5, where multiplying is seen: 15, without it.
func TestThriceASecret(t *testing.T) {
	const text = "(fn ((sec a)) () (ret (* a 3)))"
	multiplies := func(l api.Leak) bool { return l.Op == api.OpMul }
	shows := func(l api.Leak) bool { return len(l.Values) > 0 }
	for mode := range 2 {
		for _, what := range []string{"mul 1\n", "mul 3\n"} {
			r := drive.Run(what, text, api.Given{Words: []int{5}}, mode)
			if r.Err != api.OK || r.Ended.Word != 15 || slices.ContainsFunc(r.Leaks, multiplies) || slices.ContainsFunc(r.Leaks, shows) {
				t.Errorf("by %q, in mode %d, it is %v", what, mode, r)
			}
		}
		for _, what := range []string{"", "mul 2\n", "div 3\n"} {
			if r := drive.Run(what, text, api.Given{Words: []int{5}}, mode); r.Ended.Word != 15 || !slices.ContainsFunc(r.Leaks, multiplies) {
				t.Errorf("by %q, in mode %d, it is %v, as if multiplying showed a secret", what, mode, r)
			}
		}
	}
}

// What is public may be seen, by the table that was handed in.
func TestWhatIsPublicIsSeen(t *testing.T) {
	const text = "(fn ((pub a) (sec b)) () (ret (+ (* a a) (^ b a))))"
	g := api.Given{Words: []int{6, 7}}
	seen := func(what string, op int) [][]int {
		var out [][]int
		for _, l := range drive.Run(what, text, g, 0).Leaks {
			if l.Op == op {
				out = append(out, l.Values)
			}
		}
		return out
	}
	for _, x := range []struct {
		what string
		op   int
		want []int
	}{{"", api.OpMul, nil}, {"mul 1\n", api.OpMul, list(6)}, {"mul 3\n", api.OpMul, list(6, 6)}, {"xor 2\nmul 3\n", api.OpXor, list(6)}, {"mul 3\n", api.OpXor, nil}} {
		if got := seen(x.what, x.op); len(got) != 1 || !slices.Equal(got[0], x.want) {
			t.Errorf("by %q, of op %d, %v is seen, not %v", x.what, x.op, got, x.want)
		}
	}
}

// The first one of all that is wrong counts, and beside it there is nothing.
func TestTheFirstErrorCounts(t *testing.T) {
	const (
		right = "(fn ((sec a)) () (ret (+ a 1)))"
		lets  = "(fn () () (for i 8 (for j 8 (let pub x (/ i j)))))"
	)
	wide := "(fn ((sec a)) () (for i 8 (for j 4" + strings.Repeat("(set a (/ a j))", 8) + ")) (ret a))"
	for _, x := range []struct {
		what, text string
		want       api.Errno
	}{
		{"mul 3", right, api.ErrForm},
		{"zap", "(fn", api.ErrForm},
		{"zap 1\n", "(fn", api.ErrName},
		{"mul 9\n", "(fn () () (ret x))", api.ErrRange},
		{"mul 9\n", strings.Repeat(" ", api.MaxText+1), api.ErrRange},
		{"mul 3\n", strings.Repeat(" ", api.MaxText+1), api.ErrMuch},
		{"mul 3\n", "(fn", api.ErrEnd},
		{"", "", api.ErrEnd},
		{"", "(fn () () (zap))", api.ErrKind},
		{"", "(fn () ((pub t 9)))", api.ErrRange},
		{"", "(fn () () (ret (+ (+ (+ (+ (+ (+ (+ (+ (+ 1 1) 1) 1) 1) 1) 1) 1) 1) 1)))", api.ErrDeep},
		{"add 1\n", "(fn () () (ret x)", api.ErrEnd},
		{"add 1\n", "(fn ((sec a)) () (ret (+ a x)))", api.ErrNone},
		{"add 1\n", "(fn ((sec a)) () (let pub x (+ a 1)))", api.ErrLabel},
		{"add 1\n", "(fn ((sec a) (sec a)) () (ret (+ a 1)))", api.ErrName},
		{"", "(fn ((pub a) (pub b) (pub c) (pub d) (pub e)) () (ret a))", api.ErrMany},
		{"", lets, api.ErrMuch},
		{"add 1\n", right, api.ErrTable},
		{"add 3\n", right, api.ErrTable},
		{"xor 2\n", "(fn ((sec a)) () (ret (^ 1 a)))", api.ErrTable},
		{"store 2\n", "(fn ((sec a)) ((sec t 1)) (put t 0 a))", api.ErrTable},
		{"move 1\n", "(fn ((sec a)) () (let sec x a) (ret x))", api.ErrTable},
		{"div 3\n", wide, api.ErrMuch},
		{"add 3\ndiv 3\n", wide, api.ErrTable},
	} {
		if m, err := drive.Make(x.what, x.text); err != x.want || !isNothing(m) {
			t.Errorf("Make of %q, by %q, is %v, %d, not %d alone", x.text, x.what, m, err, x.want)
		}
		for _, g := range []api.Given{{}, {Words: []int{1}}, {Words: []int{-1}}, {Words: []int{5}, Arrays: [][]int{{1}}}} {
			for mode := -1; mode < 3; mode++ {
				wantErr(t, x.what, x.text, g, mode, x.want)
			}
		}
	}
	made(t, "", wide)
	made(t, "add 2\n", right)
}

// Where it would be too much laid flat that is told, whatever the table.
func TestTooMuchLaidFlat(t *testing.T) {
	sum := "(at t a)"
	for range 4 {
		sum = "(+ " + sum + " " + sum + ")"
	}
	text := "(fn ((pub a) (sec b)) ((sec t 8)) (for i 8 (for j 8" + strings.Repeat("(set b "+sum+")", 3) + ")))"
	program(t, text)
	for _, what := range []string{"", "add 3\n", mostSeen} {
		if m, err := drive.Make(what, text); err != api.ErrMuch || !isNothing(m) {
			t.Errorf("by %q it is %d", what, err)
		}
	}
}

func TestRunOfWhatDoesNotFit(t *testing.T) {
	const text = "(fn ((pub a) (sec b)) ((sec t 2) (pub u 1)) (put t 0 b) (ret a))"
	ok := lists(list(1, 2), list(3))
	for _, x := range []struct {
		g    api.Given
		mode int
		want api.Errno
	}{
		{api.Given{}, 0, api.ErrMany},
		{api.Given{Words: list(1), Arrays: ok}, 0, api.ErrMany},
		{api.Given{Words: list(1, 2, 3), Arrays: ok}, 0, api.ErrMany},
		{api.Given{Words: list(1, 2), Arrays: ok[:1]}, 0, api.ErrMany},
		{api.Given{Words: list(1, 2), Arrays: lists(list(1, 2), list(3), nil)}, 0, api.ErrMany},
		{api.Given{Words: list(1, 2), Arrays: lists(list(1), list(3))}, 0, api.ErrMany},
		{api.Given{Words: list(1, 2), Arrays: lists(list(1, 2, 3), list(3))}, 0, api.ErrMany},
		{api.Given{Words: list(1, -1), Arrays: lists(list(1), list(3))}, 0, api.ErrMany},
		{api.Given{Words: list(1, -1), Arrays: ok}, 0, api.ErrRange},
		{api.Given{Words: list(api.MaxWord+1, 2), Arrays: ok}, 0, api.ErrRange},
		{api.Given{Words: list(1, 2), Arrays: lists(list(1, 2), list(api.MaxWord+1))}, 1, api.ErrRange},
		{api.Given{Words: list(1, 2), Arrays: lists(list(1, -1), list(3))}, 2, api.ErrRange},
		{api.Given{Words: list(1, 2), Arrays: ok}, 2, api.ErrMany},
		{api.Given{Words: list(1, 2), Arrays: ok}, -1, api.ErrMany},
		{api.Given{Words: list(1, 2), Arrays: ok}, -1 << 63, api.ErrMany},
		{api.Given{Words: list(1, 2), Arrays: ok}, 1<<63 - 1, api.ErrMany},
	} {
		wantErr(t, "sel 1\n", text, x.g, x.mode, x.want)
	}
	r := drive.Run("sel 1\n", text, api.Given{Words: list(api.MaxWord, 0), Arrays: lists(list(0, api.MaxWord), list(7))}, 1)
	if r.Err != api.OK || !sameEnd(r.Ended, ends(api.MaxWord, list(0, api.MaxWord), list(7))) {
		t.Errorf("of what fits it is %v", r)
	}
}

// A text runs as its image does.
func TestItRunsAsItsImage(t *testing.T) {
	for _, what := range []string{"", "mul 3\n", mostSeen} {
		tab, _ := table.Parse(what)
		for _, x := range known() {
			m := made(t, what, x.text)
			f := program(t, x.text)
			if m.Params != len(f.Params) || !slices.Equal(m.Arrays, f.Arrays) {
				t.Errorf("the image of %q has %d, %v", x.text, m.Params, m.Arrays)
			}
			for mode := range 2 {
				g := api.Given{Words: x.words, Arrays: x.arrays}
				if r, want := drive.Run(what, x.text, g, mode), mach.Run(m, tab, g, mode, 2*api.MaxCode); !sameRan(r, want) {
					t.Errorf("Run of %q is %v, its image's %v", x.text, r, want)
				}
			}
		}
	}
}

// long does sums, many times over, and so many more: with 3 more it is MaxCode instructions laid flat, of which none can go, nor is known. All but the last one, a trap, are done.
func long(more int) string {
	sum := "(at t a)"
	for range 2 {
		sum = "(+" + sum + sum + ")"
	}
	set := func(by string) string {
		return "(set b(sel " + by + " b(sel" + sum + sum + sum + ")))"
	}
	last := strings.Repeat("(+ a", more) + " b" + strings.Repeat(")", more)
	return "(fn((pub a)(sec b))((sec t 1))(for i 8(for j 8" + set("i") + set("j") + set("b") + "))(for k 5" + set("k") + set("b") + ")(ret" + last + "))"
}

// The longest image takes more than MaxCode steps, and is not stopped.
func TestTheLongestImage(t *testing.T) {
	for mode := range 2 {
		r := drive.Run("shl 2\n", long(3), api.Given{Words: list(0, 1), Arrays: lists(list(3))}, mode)
		if r.Err != api.OK || r.Steps <= api.MaxCode || !sameEnd(r.Ended, ends(12, list(3))) {
			t.Errorf("in mode %d it ends %v, %d, with %d steps", mode, r.Ended, r.Err, r.Steps)
		}
	}
	if m, err := drive.Make("", long(4)); err != api.ErrMuch || !isNothing(m) {
		t.Errorf("with one more it is %d", err)
	}
}

// mostCost: what costs no more has an image, if the table lets it be done at all.
const mostCost = 100

// joined has all of l in one expression.
func joined(op string, l []string) string {
	if len(l) == 1 {
		return l[0]
	}
	half := len(l) / 2
	return "(" + op + " " + joined(op, l[:half]) + " " + joined(op, l[half:]) + ")"
}

// small has statements that cost less than mostCost: much must be done otherwise, or many places are needed at once.
func small() []string {
	moves := "(set a (<< (>> (<< (>> (<< (>> (<< a b) b) a) b) a) b) a))"
	dark := "(if (< a b) ((if (= a 1) ((set a (OP a b))) ((set b a)))) ((if b ((put t 3 (at t 1))) ((set a (- a b))))))"
	chosen := "b"
	for range 6 {
		chosen = "(sel (+ a 1) (- a 2) " + chosen + ")"
	}
	lets := ""
	var names []string
	for k := range api.MaxLets {
		s := "v" + string([]byte{byte('a' + k)})
		lets += "(let sec " + s + " a)"
		names = append(names, s)
	}
	return []string{
		strings.Repeat(moves, 6),
		strings.Repeat("(set a "+chosen+")", 2),
		lets + "(set a " + joined("<", names) + ")",
		strings.Replace(dark, "OP", "*", 1),
		strings.Replace(dark, "OP", "/", 1),
		strings.Replace(dark, "OP", "%", 1),
		"(for i 8 (set a (sel (= i a) (at u i) b)))",
		"(for i 2 (for j 4 (if (< a j) ((put t 1 (sel a b i))) ())))",
		"(put u (& (at u 0) 7) (at u (at u 1)))",
	}
}

// lines has mostSeen, each line of it alone, and all but each.
func lines() []string {
	out := []string{mostSeen}
	for _, l := range strings.SplitAfter(strings.TrimSuffix(mostSeen, "\n"), "\n") {
		l = strings.TrimSuffix(l, "\n") + "\n"
		out = append(out, l, strings.Replace(mostSeen, l, "", 1))
	}
	return out
}

// What costs mostCost, and not a bit less, has an image by each table by which it must have one.
func TestWhatIsSmallEnoughHasAnImage(t *testing.T) {
	g := api.Given{Words: list(0x80000005, 3), Arrays: lists(list(1, 2, 3, 4), list(5, 6, 7, 8, 9, 10, 11, 12))}
	other := api.Given{Words: list(1, api.MaxWord), Arrays: lists(list(9, 0, api.MaxWord, 4), list(5, 6, 7, 8, 9, 10, 11, 12))}
	for _, body := range small() {
		head := "(fn ((sec a) (sec b)) ((sec t 4) (pub u 8)) " + body
		more := mostCost - cost(program(t, head+"(ret a))").Body)
		text := head + strings.Repeat("(set b (- b 1))", more/4) + strings.Repeat("(for z 0)", more%4) + "(ret a))"
		if n := cost(program(t, text).Body); n != mostCost {
			t.Fatalf("%q costs %d", text, n)
		}
		for _, what := range lines() {
			made(t, what, text)
			runsEvenly(t, what, text, g, other)
		}
	}
}

// What is a number need not be done otherwise, so that what is seen of it is no matter.
func TestNumbersAreSeen(t *testing.T) {
	const text = "(fn ((sec a)) () (let sec x 5) (set x (+ x (* x 3))) (ret (^ a x)))"
	for _, what := range []string{"add 3\n", "mul 3\n", "add 3\nmul 3\nmove 1\n"} {
		r := runsEvenly(t, what, text, api.Given{Words: list(1)}, api.Given{Words: list(7)})
		if r.Ended.Word != 21 {
			t.Errorf("by %q it ends with %d", what, r.Ended.Word)
		}
	}
}

// everything is texts, of which all comes that may, and what they are given.
func everything() (what, text string, g api.Given) {
	what = "mul 3\nload 1\nstore 1\n"
	text = "(fn ((pub a) (sec b)) ((sec t 2) (pub u 1)) (put t (& a 1) (* b 3)) (put u 0 (* a 2)) (ret (+ b (at t 1))))"
	return what, text, api.Given{Words: list(3, 4), Arrays: lists(list(7, 8), list(9))}
}

func TestRunOnlyReads(t *testing.T) {
	what, text, g := everything()
	want := drive.Run(what, text, g, 0)
	all := list(3, 4, 97, 7, 8, 96, 9, 95)
	h := api.Given{Words: all[:2], Arrays: lists(all[3:5], all[6:7])}
	got := drive.Run(what, text, h, 0)
	again := drive.Run(what, text, h, 0)
	if !slices.Equal(all, list(3, 4, 97, 7, 8, 96, 9, 95)) {
		t.Fatalf("what was handed in is %v then", all)
	}
	clear(all)
	for _, l := range again.Ended.Arrays {
		clear(l[:cap(l)])
	}
	for _, l := range again.Leaks {
		clear(l.Values[:cap(l.Values)])
	}
	clear(again.Leaks[:cap(again.Leaks)])
	if !sameRan(got, want) || !sameEnd(got.Ended, ends(16, list(7, 12), list(6))) {
		t.Errorf("an answer hangs on another one, or on what was handed in: %v, not %v", got, want)
	}
}

func TestImagesAreTheCallers(t *testing.T) {
	what, text, g := everything()
	m, want := made(t, what, text), made(t, what, text)
	if !slices.Equal(m.Bytes, want.Bytes) {
		t.Errorf("it is made in two ways")
	}
	ran := drive.Run(what, text, g, 1)
	clear(m.Bytes[:cap(m.Bytes)])
	clear(m.Arrays[:cap(m.Arrays)])
	again := made(t, what, text)
	if !slices.Equal(again.Bytes, want.Bytes) || !slices.Equal(again.Arrays, want.Arrays) || again.Params != want.Params {
		t.Errorf("an image hangs on another one")
	}
	if r := drive.Run(what, text, g, 1); !sameRan(r, ran) {
		t.Errorf("a run hangs on an image that was handed out")
	}
}

func TestNilAndEmptyAreTheSame(t *testing.T) {
	for _, g := range []api.Given{{}, {Words: list(), Arrays: lists()}} {
		if r := drive.Run("", "(fn () () (ret 7))", g, 0); r.Err != api.OK || !sameEnd(r.Ended, ends(7)) {
			t.Errorf("of %v it is %v", g, r)
		}
	}
	for _, l := range [][]int{nil, {}} {
		wantErr(t, "", "(fn () ((pub t 1)))", api.Given{Arrays: lists(l)}, 0, api.ErrMany)
	}
}
