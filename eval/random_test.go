package eval_test

import (
	"math/rand"
	"slices"
	"testing"

	"evenpace/api"
	"evenpace/eval"
	"evenpace/label"
	"evenpace/lang"
	"evenpace/word"
)

// maker makes programs, the same ones each time. It mostly mentions names that are there, so that many of them are right.
type maker struct {
	*rand.Rand
	names []string
	made  int
}

func (m *maker) pick(l ...string) string {
	return l[m.Intn(len(l))]
}

func (m *maker) expr(depth int) api.Expr {
	kind := 1 + m.Intn(5)
	if depth <= 0 {
		kind = 1 + m.Intn(2)
	}
	e := api.Expr{Kind: kind}
	args := 0
	switch kind {
	case api.ExNum:
		e.N = []int{0, 1, 2, 3, 31, api.MaxWord}[m.Intn(6)]
	case api.ExName:
		e.Name = m.pick(m.names...)
	case api.ExTwo:
		e.N, args = 1+m.Intn(12), 2
	case api.ExSel:
		args = 3
	case api.ExAt:
		e.Name, e.Args = m.pick("t", "u"), []api.Expr{m.place(depth - 1)}
	}
	for range args {
		e.Args = append(e.Args, m.expr(depth-1))
	}
	return e
}

// place makes what is often below the size of an array.
func (m *maker) place(depth int) api.Expr {
	if m.Intn(3) > 0 {
		return api.Expr{Kind: api.ExNum, N: m.Intn(3)}
	}
	return api.Expr{Kind: api.ExTwo, N: api.OpRem, Args: []api.Expr{m.expr(depth), {Kind: api.ExNum, N: 4}}}
}

func (m *maker) block(depth int) []api.Stmt {
	ahead := len(m.names)
	var l []api.Stmt
	for range 1 + m.Intn(4) {
		l = append(l, m.stmt(depth))
	}
	m.names = m.names[:ahead]
	return l
}

func (m *maker) newName() string {
	m.made++
	return string([]byte{'v', byte('a' + m.made/26%26), byte('a' + m.made%26)})
}

func (m *maker) stmt(depth int) api.Stmt {
	s := api.Stmt{Kind: []int{1, 1, 2, 2, 3, 3, 4, 4, 5, 6}[m.Intn(10)]}
	if depth == 0 {
		s.Kind = 1 + m.Intn(3)
	}
	s.Args = []api.Expr{m.expr(2)}
	switch s.Kind {
	case api.StLet:
		s.Name, s.Secret = m.newName(), m.Intn(3) > 0
		m.names = append(m.names, s.Name)
	case api.StSet:
		s.Name = m.pick(m.names...)
	case api.StPut:
		s.Name = m.pick("t", "u", "u")
		s.Args = []api.Expr{m.place(1), m.expr(2)}
	case api.StIf:
		s.Then, s.Else = m.block(depth-1), m.block(depth-1)
	case api.StFor:
		s.Name, s.N, s.Args = m.newName(), m.Intn(4), nil
		m.names = append(m.names, s.Name)
		s.Then = m.block(depth - 1)
		m.names = m.names[:len(m.names)-1]
	}
	return s
}

// program has a public word and array, and secret ones.
func (m *maker) program() api.Fn {
	m.names, m.made = []string{"a", "b"}, 0
	return api.Fn{
		Params: []api.Var{{Name: "a"}, {Name: "b", Secret: true}},
		Arrays: []api.Var{{Name: "t", Size: 3}, {Name: "u", Secret: true, Size: 2}},
		Body:   m.block(3),
	}
}

func (m *maker) word() int {
	if m.Intn(2) == 0 {
		return m.Intn(4)
	}
	return int(m.Uint32())
}

func (m *maker) given() api.Given {
	return api.Given{Words: []int{m.word(), m.word()}, Arrays: [][]int{{m.word(), m.word(), m.word()}, {m.word(), m.word()}}}
}

// plain does a program as it reads, with names in a map.
type plain struct {
	words  map[string]int
	arrays map[string][]int
}

// ended is what ends a program at once.
type ended struct {
	word int
	trap bool
}

func (p plain) run(f api.Fn) (e ended) {
	defer func() {
		if x := recover(); x != nil {
			e = x.(ended)
		}
	}()
	p.block(f.Body)
	return ended{}
}

func (p plain) block(l []api.Stmt) {
	for _, s := range l {
		p.stmt(s)
	}
}

func (p plain) stmt(s api.Stmt) {
	switch s.Kind {
	case api.StLet, api.StSet:
		p.words[s.Name] = p.expr(s.Args[0])
	case api.StPut:
		i, n := p.expr(s.Args[0]), p.expr(s.Args[1])
		p.at(s.Name, i)[0] = n
	case api.StIf:
		if p.expr(s.Args[0]) != 0 {
			p.block(s.Then)
		} else {
			p.block(s.Else)
		}
	case api.StFor:
		for i := range s.N {
			p.words[s.Name] = i
			p.block(s.Then)
		}
	case api.StRet:
		panic(ended{word: p.expr(s.Args[0])})
	}
}

func (p plain) expr(e api.Expr) int {
	var l []int
	for _, a := range e.Args {
		l = append(l, p.expr(a))
	}
	switch e.Kind {
	case api.ExNum:
		return e.N
	case api.ExName:
		return p.words[e.Name]
	case api.ExTwo:
		n, _ := word.Two(e.N, l[0], l[1])
		return n
	case api.ExSel:
		return word.Sel(l[0], l[1], l[2])
	}
	return p.at(e.Name, l[0])[0]
}

func (p plain) at(name string, i int) []int {
	if i >= len(p.arrays[name]) {
		panic(ended{trap: true})
	}
	return p.arrays[name][i:]
}

func byReading(f api.Fn, g api.Given) api.Ended {
	t, u := slices.Clone(g.Arrays[0]), slices.Clone(g.Arrays[1])
	p := plain{map[string]int{"a": g.Words[0], "b": g.Words[1]}, map[string][]int{"t": t, "u": u}}
	e := p.run(f)
	return api.Ended{Word: e.word, Trap: e.trap, Arrays: [][]int{t, u}}
}

// rightOnes makes programs until so many are right, and hands on those.
func (m *maker) rightOnes(n int, each func(f api.Fn)) {
	for n > 0 {
		f := m.program()
		if label.Check(f) == api.OK {
			n--
			each(f)
		}
	}
}

func TestRunIsAsItReads(t *testing.T) {
	m := &maker{Rand: rand.New(rand.NewSource(7))}
	traps, words := 0, 0
	m.rightOnes(5000, func(f api.Fn) {
		g := m.given()
		want := byReading(f, g)
		got, err := eval.Run(f, g)
		if err != api.OK || !same(got, want) {
			t.Fatalf("Run of %q, of %v, is %v, %d, not %v", lang.Print(f), g, got, err, want)
		}
		if got.Trap {
			traps++
		}
		if got.Word != 0 {
			words++
		}
	})
	if traps < 200 || words < 200 {
		t.Errorf("only %d programs trap, and %d end with a word", traps, words)
	}
}

func TestWordsStayWords(t *testing.T) {
	m := &maker{Rand: rand.New(rand.NewSource(8))}
	m.rightOnes(3000, func(f api.Fn) {
		got, err := eval.Run(f, m.given())
		if err != api.OK || !word.Is(got.Word) || eval.Fits(f, api.Given{Words: []int{0, got.Word}, Arrays: got.Arrays}) != api.OK {
			t.Fatalf("Run of %q is %v, %d", lang.Print(f), got, err)
		}
	})
}

func TestWhatIsPublicDoesNotHangOnWhatIsSecret(t *testing.T) {
	m := &maker{Rand: rand.New(rand.NewSource(9))}
	other := 0
	m.rightOnes(5000, func(f api.Fn) {
		g, h := m.given(), m.given()
		h.Words[0], h.Arrays[0] = g.Words[0], g.Arrays[0]
		one, _ := eval.Run(f, g)
		two, _ := eval.Run(f, h)
		if one.Trap != two.Trap || !slices.Equal(one.Arrays[0], two.Arrays[0]) {
			t.Fatalf("%q shows a secret: of %v comes %v, of %v %v", lang.Print(f), g, one, h, two)
		}
		if !slices.Equal(one.Arrays[0], g.Arrays[0]) && !slices.Equal(one.Arrays[1], two.Arrays[1]) {
			other++
		}
	})
	if other < 200 {
		t.Errorf("only %d programs change what is public, and differ in what is secret", other)
	}
}
