package lower_test

import (
	"math/rand"
	"slices"
	"testing"

	"evenpace/api"
	"evenpace/label"
	"evenpace/lang"
	"evenpace/lower"
)

// maker makes programs, the same ones each time. It knows what is public, and where it is dark, and mostly keeps to it, so that many of them are right, and secrets lead in most of them.
type maker struct {
	*rand.Rand
	public, secret []string
	made           int
}

func (m *maker) pick(l []string) string {
	return l[m.Intn(len(l))]
}

func (m *maker) number() api.Expr {
	return api.Expr{Kind: api.ExNum, N: []int{0, 1, 2, 3, 31, api.MaxWord}[m.Intn(6)]}
}

func name(s string) api.Expr {
	return api.Expr{Kind: api.ExName, Name: s}
}

// expr makes an expression that may be secret, or one that is not.
func (m *maker) expr(depth int, secret, dark bool) api.Expr {
	kind := 1 + m.Intn(5)
	if depth <= 0 {
		kind = 1 + m.Intn(2)
	}
	args := 0
	e := api.Expr{Kind: kind}
	switch kind {
	case api.ExNum:
		return m.number()
	case api.ExName:
		if secret && m.Intn(4) > 0 {
			return name(m.pick(m.secret))
		}
		return name(m.pick(m.public))
	case api.ExTwo:
		e.N, args = 1+m.Intn(12), 2
	case api.ExSel:
		args = 3
	case api.ExAt:
		e.Name, e.Args = "t", []api.Expr{m.place(depth-1, dark)}
		if secret && m.Intn(2) == 0 {
			e.Name = "u"
		}
	}
	for range args {
		e.Args = append(e.Args, m.expr(depth-1, secret, dark))
	}
	return e
}

// place makes what is often below the size of an array; in the dark always.
func (m *maker) place(depth int, dark bool) api.Expr {
	if dark {
		return api.Expr{Kind: api.ExNum, N: m.Intn(2)}
	}
	if m.Intn(2) == 0 {
		return api.Expr{Kind: api.ExNum, N: m.Intn(3)}
	}
	by := api.Expr{Kind: api.ExNum, N: 2 + m.Intn(2)}
	return api.Expr{Kind: api.ExTwo, N: api.OpRem, Args: []api.Expr{m.expr(depth, false, false), by}}
}

func (m *maker) block(depth int, dark bool) []api.Stmt {
	public, secret := len(m.public), len(m.secret)
	var l []api.Stmt
	for range 1 + m.Intn(4) {
		l = append(l, m.stmt(depth, dark))
	}
	m.public, m.secret = m.public[:public], m.secret[:secret]
	return l
}

func (m *maker) newName() string {
	m.made++
	return string([]byte{'v', byte('a' + m.made/26%26), byte('a' + m.made%26)})
}

func (m *maker) stmt(depth int, dark bool) api.Stmt {
	s := api.Stmt{Kind: []int{1, 2, 2, 2, 3, 3, 4, 4, 4, 4, 5, 6}[m.Intn(12)]}
	if depth == 0 || dark && s.Kind == api.StRet {
		s.Kind = 1 + m.Intn(3)
	}
	secret := dark || m.Intn(3) > 0
	s.Args = []api.Expr{m.expr(2, secret, dark)}
	switch s.Kind {
	case api.StLet:
		s.Name, s.Secret = m.newName(), secret
		if secret {
			m.secret = append(m.secret, s.Name)
		} else {
			m.public = append(m.public, s.Name)
		}
	case api.StSet:
		s.Name = m.pick(m.public)
		if secret {
			s.Name = m.pick(m.secret)
		}
	case api.StPut:
		s.Name = "t"
		if secret {
			s.Name = "u"
		}
		s.Args = []api.Expr{m.place(1, dark), m.expr(2, secret, dark)}
	case api.StIf:
		m.choice(&s, depth, dark)
	case api.StFor:
		s.Name, s.N, s.Args = m.newName(), m.Intn(4), nil
		m.public = append(m.public, s.Name)
		s.Then = m.block(depth-1, dark)
		m.public = m.public[:len(m.public)-1]
	}
	return s
}

// choice often leads by a bare secret, which both ways may set; and often a way is empty.
func (m *maker) choice(s *api.Stmt, depth int, dark bool) {
	secret := m.Intn(3) > 0
	s.Args = []api.Expr{m.expr(1, secret, dark)}
	if secret && m.Intn(2) == 0 {
		s.Args[0] = name(m.pick(m.secret))
	}
	way := m.Intn(6)
	if way != 0 {
		s.Then = m.block(depth-1, dark || secret)
	}
	if way < 4 {
		s.Else = m.block(depth-1, dark || secret)
	}
}

// program has a public word and array, and secret ones.
func (m *maker) program() api.Fn {
	m.public, m.secret, m.made = []string{"a"}, []string{"b", "c"}, 0
	body := m.block(4, false)
	if m.Intn(2) == 0 {
		body = append(body, api.Stmt{Kind: api.StRet, Args: []api.Expr{m.expr(2, true, false)}})
	}
	return api.Fn{
		Params: []api.Var{{Name: "a"}, {Name: "b", Secret: true}, {Name: "c", Secret: true}},
		Arrays: []api.Var{{Name: "t", Size: 3}, {Name: "u", Secret: true, Size: 2}},
		Body:   body,
	}
}

func (m *maker) word() int {
	if m.Intn(2) == 0 {
		return m.Intn(3)
	}
	return int(m.Uint32())
}

func (m *maker) given() api.Given {
	return api.Given{Words: []int{m.word(), m.word(), m.word()}, Arrays: [][]int{{m.word(), m.word(), m.word()}, {m.word(), m.word()}}}
}

// rightOnes makes programs until so many are right, and hands on those.
func (m *maker) rightOnes(n int, each func(f api.Fn)) {
	for n > 0 {
		f := m.program()
		if label.Check(f) == api.OK {
			n--
			each(f)
		}
	}
}

func TestFlatItIsTheSame(t *testing.T) {
	m := &maker{Rand: rand.New(rand.NewSource(11))}
	traps, words, arrays, ways := 0, 0, 0, 0
	m.rightOnes(6000, func(f api.Fn) {
		x := flat(t, f)
		if slices.ContainsFunc(x.Code, func(i api.Instr) bool { return i.Op == api.OpSel && (i.D == i.B || i.D == i.C) }) {
			ways++
		}
		for range 6 {
			g := m.given()
			e := sameEnds(t, f, x, g)
			if e.Trap {
				traps++
			}
			if e.Word != 0 {
				words++
			}
			if !slices.Equal(e.Arrays[1], g.Arrays[1]) {
				arrays++
			}
		}
	})
	if traps < 2000 || words < 2000 || arrays < 2000 || ways < 1000 {
		t.Errorf("only %d trap, %d end with a word, %d put, and %d lead by a secret", traps, words, arrays, ways)
	}
}

// Of two runs that differ in secrets alone the same instructions are done, of the same public words.
func TestNothingLeadsByWhatIsSecret(t *testing.T) {
	m := &maker{Rand: rand.New(rand.NewSource(12))}
	other := 0
	m.rightOnes(4000, func(f api.Fn) {
		x := flat(t, f)
		g := m.given()
		one, seen := flatRun(x, g)
		for range 4 {
			h := m.given()
			h.Words[0], h.Arrays[0] = g.Words[0], g.Arrays[0]
			two, now := flatRun(x, h)
			if !slices.Equal(seen, now) || one.Trap != two.Trap || !slices.Equal(one.Arrays[0], two.Arrays[0]) {
				t.Fatalf("flat, %q shows a secret, of %v and %v", lang.Print(f), g, h)
			}
			if one.Word != two.Word {
				other++
			}
		}
	})
	if other < 1000 {
		t.Errorf("only %d differ in what comes of them", other)
	}
}

func TestWhatIsSmallEnoughIsDoneAtRandom(t *testing.T) {
	m := &maker{Rand: rand.New(rand.NewSource(13))}
	small, great := 0, 0
	m.rightOnes(6000, func(f api.Fn) {
		if n := nodes(f.Body); n <= 500 {
			small++
			great = max(great, n)
			if _, err := lower.Lower(f); err != api.OK {
				t.Fatalf("Lower of %q, of %d, is %d", lang.Print(f), n, err)
			}
		}
	})
	if small < 1000 || great < 400 {
		t.Errorf("only %d are small enough, of %d at most", small, great)
	}
}
