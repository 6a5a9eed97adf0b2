package drive_test

import (
	"math/rand"
	"slices"
	"strconv"
	"strings"
	"testing"

	"evenpace/api"
	"evenpace/drive"
	"evenpace/label"
	"evenpace/lang"
	"evenpace/table"
)

// maker makes texts, the same ones each time. It knows what is public, and mostly keeps to it, so that many of them are right.
type maker struct {
	*rand.Rand
	names  [2][]string // public ones, and secret ones
	arrays [2][]api.Var
	depth  int // of expressions
	made   int
}

func pick(m *maker, l ...string) string {
	return l[m.Intn(len(l))]
}

func (m *maker) newName() string {
	m.made++
	return "v" + string([]byte{byte('a' + m.made/26%26), byte('a' + m.made%26)})
}

// expr makes an expression that may be secret, if secret is 1.
func (m *maker) expr(depth, secret int, dark bool) string {
	part := func() string { return m.expr(depth-1, secret, dark) }
	kind := m.Intn(9)
	if depth <= 0 {
		kind = m.Intn(3)
	}
	switch kind {
	case 0:
		return pick(m, "0", "1", "2", "3", "31", "4294967295")
	case 1, 2:
		l := m.names[m.Intn(secret+1)]
		if len(l) == 0 {
			return "7"
		}
		return pick(m, l...)
	case 3:
		return "(sel " + part() + " " + part() + " " + part() + ")"
	case 4:
		if l := m.arrays[m.Intn(secret+1)]; len(l) > 0 {
			v := l[m.Intn(len(l))]
			return "(at " + v.Name + " " + m.place(v, depth-1, dark) + ")"
		}
	}
	op := pick(m, "+", "-", "&", "|", "^", "<<", ">>", "<", "=", "<<", ">>", "<", "=", "*", "/", "%")
	return "(" + op + " " + part() + " " + part() + ")"
}

// place makes what is often a place of v; in the dark always.
func (m *maker) place(v api.Var, depth int, dark bool) string {
	if dark || m.Intn(2) == 0 {
		return strconv.Itoa(m.Intn(v.Size))
	}
	if m.Intn(2) == 0 {
		return "(% " + m.expr(depth, 0, false) + " " + strconv.Itoa(v.Size+m.Intn(8)/7) + ")"
	}
	return m.expr(depth, 0, false)
}

func (m *maker) block(n, depth int, dark bool) string {
	was := m.names
	var l []string
	for range 1 + m.Intn(n) {
		l = append(l, m.stmt(depth, dark))
	}
	m.names = was
	return strings.Join(l, " ")
}

func (m *maker) stmt(depth int, dark bool) string {
	secret := m.Intn(3)&1 ^ 1
	if dark {
		secret = 1
	}
	e := m.expr(m.depth, secret, dark)
	kind := m.Intn(12)
	if depth <= 0 {
		kind = m.Intn(6)
	}
	switch {
	case kind < 2 && m.made < 20:
		s := m.newName()
		m.names[secret] = append(slices.Clip(m.names[secret]), s)
		return "(let " + []string{"pub", "sec"}[secret] + " " + s + " " + e + ")"
	case kind < 4 && len(m.names[secret]) > 0:
		return "(set " + pick(m, m.names[secret]...) + " " + e + ")"
	case kind < 6 && len(m.arrays[secret]) > 0:
		v := m.arrays[secret][m.Intn(len(m.arrays[secret]))]
		return "(put " + v.Name + " " + m.place(v, 1, dark) + " " + e + ")"
	case depth <= 0:
		return "(for " + m.newName() + " " + strconv.Itoa(m.Intn(9)) + ")"
	case kind < 10:
		dark = dark || secret == 1
		return "(if " + e + " (" + m.block(2, depth-1, dark) + ") (" + m.block(2, depth-1, dark) + "))"
	case kind < 11 || dark:
		s := m.newName()
		was := m.names
		m.names[0] = append(slices.Clip(m.names[0]), s)
		body := m.block(2, depth-1, dark)
		m.names = was
		return "(for " + s + " " + strconv.Itoa(m.Intn(4)) + " " + body + ")"
	}
	return "(ret " + e + ")"
}

func (m *maker) program() string {
	m.names, m.arrays, m.made = [2][]string{}, [2][]api.Var{}, 0
	m.depth = 1 + m.Intn(3)
	label := []string{"pub", "sec"}
	var params, arrays []string
	for k := range m.Intn(api.MaxParams + 1) {
		secret, s := m.Intn(2), string([]byte{byte('a' + k)})
		m.names[secret] = append(m.names[secret], s)
		params = append(params, "("+label[secret]+" "+s+")")
	}
	for k := range m.Intn(api.MaxArrays + 1) {
		secret, v := m.Intn(2), api.Var{Name: string([]byte{byte('t' + k)}), Size: 1 + m.Intn(api.MaxSize)}
		m.arrays[secret] = append(m.arrays[secret], v)
		arrays = append(arrays, "("+label[secret]+" "+v.Name+" "+strconv.Itoa(v.Size)+")")
	}
	was := m.names
	body := m.block(6, 3, false)
	m.names = was
	if m.Intn(4) > 0 {
		body += " (ret " + m.expr(2, 1, false) + ")"
	}
	return "(fn (" + strings.Join(params, " ") + ") (" + strings.Join(arrays, " ") + ") " + body + ")"
}

// rightOnes makes texts until so many are right, and hands on those.
func (m *maker) rightOnes(n int, each func(text string, f api.Fn)) {
	for n > 0 {
		text := m.program()
		f, err := lang.Parse(text)
		if err == api.OK && label.Check(f) == api.OK {
			n--
			each(text, f)
		}
	}
}

// table has something seen of one op in so many; and, if it is even, nothing of what all else can be done by.
func (m *maker) table(of int, even bool) string {
	most, _ := table.Parse(mostSeen)
	var t api.Table
	for op := api.OpAdd; op <= api.OpStore; op++ {
		if m.Intn(of) > 0 {
			continue
		}
		t.Seen[op] = m.Intn(8) & table.All(op)
		if even {
			t.Seen[op] &= most.Seen[op]
		}
	}
	t.Seen[api.OpLoad] &= api.SeenA
	s, _ := table.Text(t)
	return s
}

func (m *maker) word() int {
	if m.Intn(2) == 0 {
		return m.Intn(4)
	}
	return int(m.Uint32())
}

func (m *maker) words(n int) []int {
	l := make([]int, n)
	for k := range l {
		l[k] = m.word()
	}
	return l
}

func (m *maker) given(f api.Fn) api.Given {
	g := api.Given{Words: m.words(len(f.Params))}
	for _, v := range f.Arrays {
		g.Arrays = append(g.Arrays, m.words(v.Size))
	}
	return g
}

// otherSecrets is g, but for what is secret.
func (m *maker) otherSecrets(f api.Fn, g api.Given) api.Given {
	h := m.given(f)
	for k, v := range f.Params {
		if !v.Secret {
			h.Words[k] = g.Words[k]
		}
	}
	for k, v := range f.Arrays {
		if !v.Secret {
			h.Arrays[k] = g.Arrays[k]
		}
	}
	return h
}

// cost counts statements, and expressions, as chapter 12 does.
func cost(l []api.Stmt) int {
	n := 0
	for _, s := range l {
		n += 1 + costOf(s.Args)
		if s.Kind == api.StFor {
			n += s.N * cost(s.Then)
		} else {
			n += cost(s.Then) + cost(s.Else)
		}
	}
	return n
}

func costOf(l []api.Expr) int {
	n := 0
	for _, e := range l {
		if e.Kind == api.ExTwo && slices.Contains([]int{api.OpMul, api.OpDiv, api.OpRem}, e.N) {
			n += 49
		}
		n += 1 + costOf(e.Args)
	}
	return n
}

// By whatever table it is the same, and even; where there is none, that is told; what is small enough is done.
func TestByWhateverTableItIsTheSame(t *testing.T) {
	m := &maker{Rand: rand.New(rand.NewSource(81))}
	counts := map[api.Errno]int{}
	small, traps, seen := 0, 0, 0
	m.rightOnes(2500, func(text string, f api.Fn) {
		even := m.Intn(3) > 0
		what := m.table(1+m.Intn(4), even)
		img, err := drive.Make(what, text)
		counts[err]++
		if even && cost(f.Body) <= mostCost {
			small++
			if err != api.OK {
				t.Fatalf("Make of %q, which is small enough, by %q, is %d", text, what, err)
			}
		}
		if even && err == api.ErrTable || err != api.OK && err != api.ErrTable && err != api.ErrMuch {
			t.Fatalf("Make of %q, by %q, is %d", text, what, err)
		}
		g := m.given(f)
		if err != api.OK {
			wantErr(t, what, text, g, m.Intn(2), err)
			return
		}
		if img.Params != len(f.Params) || !slices.Equal(img.Arrays, f.Arrays) {
			t.Fatalf("the image of %q has %d, %v", text, img.Params, img.Arrays)
		}
		r := runsEvenly(t, what, text, g, m.otherSecrets(f, g))
		if r.Ended.Trap {
			traps++
		}
		for _, l := range r.Leaks {
			seen += len(l.Values)
		}
	})
	if counts[api.OK] < 2000 || counts[api.ErrTable] < 200 || small < 300 || traps < 200 || seen < 5000 {
		t.Errorf("only %d are done, %d not, %d must be; %d trap, and %d words are seen", counts[api.OK], counts[api.ErrTable], small, traps, seen)
	}
}

// Whatever texts there are, the first error counts, in the order of the chapter; beside it there is nothing.
func TestWhateverTexts(t *testing.T) {
	m := &maker{Rand: rand.New(rand.NewSource(82))}
	counts := map[api.Errno]int{}
	for range 8000 {
		what, text := m.table(2, true), m.program()
		if m.Intn(6) == 0 {
			what = m.spoiltTable(what)
		}
		if m.Intn(4) > 0 {
			text = m.spoilt(text)
		}
		_, want := table.Parse(what)
		f, wrong := lang.Parse(text)
		if want == api.OK {
			want = wrong
		}
		if want == api.OK {
			want = label.Check(f)
		}
		counts[want]++
		img, err := drive.Make(what, text)
		if want != api.OK && err != want || want == api.OK && err != api.OK && err != api.ErrMuch {
			t.Fatalf("Make of %q, by %q, is %d, not %d", text, what, err, want)
		}
		g := m.given(f)
		if err != api.OK {
			if !isNothing(img) {
				t.Fatalf("beside %d Make of %q, by %q, is %v", err, text, what, img)
			}
			wantErr(t, what, text, g, m.Intn(4)-1, err)
		} else if r := drive.Run(what, text, g, 0); r.Err != api.OK {
			t.Fatalf("Run of %q, by %q, is %d", text, what, r.Err)
		}
	}
	for _, err := range []api.Errno{api.OK, api.ErrKind, api.ErrForm, api.ErrRange, api.ErrMuch, api.ErrNone, api.ErrName, api.ErrEnd, api.ErrLabel} {
		if counts[err] < 30 {
			t.Errorf("only %d are %d", counts[err], err)
		}
	}
}

// spoilt is text with a word of it less, or another one there, or without what is behind it, or with less secret.
func (m *maker) spoilt(text string) string {
	l := strings.Fields(strings.NewReplacer("(", " ( ", ")", " ) ").Replace(text))
	other := pick(m, strings.Fields("( ) fn pub sec let set put if for ret sel at + << * A 01 0 1 4 8 9 4294967296 a b t u x va longest")...)
	at := m.Intn(len(l))
	switch m.Intn(8) {
	case 0:
		l = slices.Delete(l, at, at+1)
	case 1:
		l = l[:at]
	case 2, 3, 4:
		return strings.Replace(text, "sec", "pub", 1+m.Intn(2))
	default:
		l[at] = other
	}
	return strings.NewReplacer("( ", "(", " )", ")").Replace(strings.Join(l, " "))
}

// spoiltTable has something more ahead of what, or behind it.
func (m *maker) spoiltTable(what string) string {
	more := pick(m, "mul", "mul 3", "mul 0\n", "mul 9\n", "mul 03\n", "add 1\nadd 1\n", "load 2\n", "zap 1\n", "\n", " ")
	if m.Intn(2) == 0 {
		return what + more
	}
	return more + what
}
