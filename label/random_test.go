package label_test

import (
	"math/rand"
	"slices"
	"testing"

	"evenpace/api"
	"evenpace/label"
	"evenpace/lang"
)

// maker makes programs of few names, the same ones each time, so that many of them are right. They set no parameter, and put in no array but w.
type maker struct{ *rand.Rand }

func (m maker) pick(l ...string) string {
	return l[m.Intn(len(l))]
}

func (m maker) expr(depth int) api.Expr {
	kind := 1 + m.Intn(5)
	if depth == 0 {
		kind = 1 + m.Intn(2)
	}
	e := api.Expr{Kind: kind}
	args := 0
	switch kind {
	case api.ExNum:
		e.N = m.Intn(4)
	case api.ExName:
		e.Name = m.pick("a", "b", "a", "b", "a", "b", "x", "i")
	case api.ExTwo:
		e.N = 1 + m.Intn(12)
		args = 2
	case api.ExSel:
		args = 3
	case api.ExAt:
		e.Name = m.pick("t", "w")
		e.Args = []api.Expr{{Kind: api.ExNum, N: m.Intn(3)}}
		if m.Intn(3) == 0 {
			e.Args[0] = m.expr(depth - 1)
		}
	}
	for range args {
		e.Args = append(e.Args, m.expr(depth-1))
	}
	return e
}

func (m maker) block(depth int) []api.Stmt {
	var l []api.Stmt
	for range m.Intn(4) {
		l = append(l, m.stmt(depth))
	}
	return l
}

func (m maker) stmt(depth int) api.Stmt {
	s := api.Stmt{Kind: 1 + m.Intn(6)}
	if depth == 0 {
		s.Kind = 1 + m.Intn(3)
	}
	s.Args = []api.Expr{m.expr(2)}
	switch s.Kind {
	case api.StLet:
		s.Name, s.Secret = m.pick("x", "y", "z"), m.Intn(2) == 0
	case api.StSet:
		s.Name = m.pick("x", "y", "z")
	case api.StPut:
		s.Name = "w"
		s.Args = []api.Expr{{Kind: api.ExNum, N: m.Intn(3)}, m.expr(2)}
	case api.StIf:
		s.Then, s.Else = m.block(depth-1), m.block(depth-1)
	case api.StFor:
		s.Name, s.N, s.Args = m.pick("i", "j", "k"), m.Intn(4), nil
		s.Then = m.block(depth - 1)
	}
	return s
}

func (m maker) program() api.Fn {
	secret := func() bool { return m.Intn(2) == 0 }
	return api.Fn{
		Params: []api.Var{{Name: "a", Secret: secret()}, {Name: "b", Secret: secret()}},
		Arrays: []api.Var{{Name: "t", Secret: secret(), Size: 3}, {Name: "w", Secret: secret(), Size: 2}},
		Body:   m.block(3),
	}
}

// public has the program without any secret.
func public(f api.Fn) api.Fn {
	f.Params, f.Arrays = slices.Clone(f.Params), slices.Clone(f.Arrays)
	for i := range f.Params {
		f.Params[i].Secret = false
	}
	for i := range f.Arrays {
		f.Arrays[i].Secret = false
	}
	f.Body = publicBlock(f.Body)
	return f
}

func publicBlock(l []api.Stmt) []api.Stmt {
	l = slices.Clone(l)
	for i := range l {
		l[i].Secret = false
		l[i].Then, l[i].Else = publicBlock(l[i].Then), publicBlock(l[i].Else)
	}
	return l
}

func TestWhereAllIsPublicNothingIsHidden(t *testing.T) {
	m := maker{rand.New(rand.NewSource(5))}
	right, seen := 0, 0
	for range 20000 {
		f := m.program()
		was, now := label.Check(f), label.Check(public(f))
		switch {
		case now == api.ErrLabel:
			t.Fatalf("%q has no secrets, but shows one", lang.Print(public(f)))
		case was != api.ErrLabel && was != now:
			t.Fatalf("%q is %d, and without secrets %d", lang.Print(f), was, now)
		case was == api.OK:
			right++
		case was == api.ErrLabel:
			seen++
		}
	}
	if right < 1000 || seen < 1000 {
		t.Errorf("only %d programs are right, and %d show a secret", right, seen)
	}
}

// What is only read makes a program no less wrong, if it is secret.
func TestMoreSecretsAreNoLessWrong(t *testing.T) {
	m := maker{rand.New(rand.NewSource(6))}
	more := 0
	for range 20000 {
		f := m.program()
		f.Params[0].Secret, f.Arrays[0].Secret = false, false
		was := label.Check(f)
		for _, v := range []*api.Var{&f.Params[0], &f.Arrays[0]} {
			v.Secret = true
			now := label.Check(f)
			if was != api.OK && now == api.OK {
				t.Fatalf("%q is right, and without that secret %d", lang.Print(f), was)
			}
			if was != now {
				more++
			}
			was = now
		}
	}
	if more < 500 {
		t.Errorf("only %d programs are wrong by a secret", more)
	}
}
