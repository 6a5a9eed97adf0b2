package lang_test

import (
	"math/rand"
	"slices"
	"strings"
	"testing"

	"evenpace/api"
	"evenpace/lang"
)

// sameFn holds programs against each other; lists without entries are the same, nil or not.
func sameFn(a, b api.Fn) bool {
	return slices.Equal(a.Params, b.Params) && slices.Equal(a.Arrays, b.Arrays) && sameStmts(a.Body, b.Body)
}

func sameStmts(a, b []api.Stmt) bool {
	return slices.EqualFunc(a, b, func(x, y api.Stmt) bool {
		return x.Kind == y.Kind && x.N == y.N && x.Name == y.Name && x.Secret == y.Secret &&
			sameExprs(x.Args, y.Args) && sameStmts(x.Then, y.Then) && sameStmts(x.Else, y.Else)
	})
}

func sameExprs(a, b []api.Expr) bool {
	return slices.EqualFunc(a, b, func(x, y api.Expr) bool {
		return x.Kind == y.Kind && x.N == y.N && x.Name == y.Name && sameExprs(x.Args, y.Args)
	})
}

// maker makes programs that can be read, the same ones each time.
type maker struct{ *rand.Rand }

func (m maker) name() string {
	for {
		b := make([]byte, 1+m.Intn(api.MaxName))
		for i := range b {
			b[i] = byte('a' + m.Intn(26))
		}
		if !slices.Contains([]string{"fn", "pub", "sec", "let", "set", "put", "if", "for", "ret", "sel", "at"}, string(b)) {
			return string(b)
		}
	}
}

func (m maker) exprs(n, around int) []api.Expr {
	var l []api.Expr
	for range n {
		l = append(l, m.expr(around))
	}
	return l
}

func (m maker) expr(around int) api.Expr {
	kind := 1 + m.Intn(5)
	if around == api.MaxDeep {
		kind = 1 + m.Intn(2)
	}
	switch kind {
	case api.ExNum:
		return num(int(m.Uint32() >> m.Intn(32)))
	case api.ExName:
		return name(m.name())
	case api.ExTwo:
		return api.Expr{Kind: kind, N: 1 + m.Intn(12), Args: m.exprs(2, around+1)}
	case api.ExSel:
		return api.Expr{Kind: kind, Args: m.exprs(3, around+1)}
	}
	return api.Expr{Kind: api.ExAt, Name: m.name(), Args: m.exprs(1, around+1)}
}

func (m maker) stmts(around int) []api.Stmt {
	var l []api.Stmt
	for m.Intn(3) > 0 && around <= api.MaxDeep {
		l = append(l, m.stmt(around))
	}
	return l
}

func (m maker) stmt(around int) api.Stmt {
	kind := 1 + m.Intn(6)
	if around == api.MaxDeep {
		kind = api.StFor
	}
	s := api.Stmt{Kind: kind}
	if kind != api.StIf && kind != api.StRet {
		s.Name = m.name()
	}
	switch kind {
	case api.StLet:
		s.Secret = m.Intn(2) == 0
		s.Args = m.exprs(1, around+1)
	case api.StPut:
		s.Args = m.exprs(2, around+1)
	case api.StIf:
		s.Args = m.exprs(1, around+1)
		s.Then, s.Else = m.stmts(around+1), m.stmts(around+1)
	case api.StFor:
		s.N = m.Intn(9)
		s.Then = m.stmts(around + 1)
	default:
		s.Args = m.exprs(1, around+1)
	}
	return s
}

func (m maker) vars(least int) []api.Var {
	var l []api.Var
	for range m.Intn(4) {
		v := api.Var{Name: m.name(), Secret: m.Intn(2) == 0}
		if least > 0 {
			v.Size = least + m.Intn(8)
		}
		l = append(l, v)
	}
	return l
}

func TestWrittenAndReadAgain(t *testing.T) {
	m := maker{rand.New(rand.NewSource(3))}
	read := 0
	for range 6000 {
		f := api.Fn{Params: m.vars(0), Arrays: m.vars(1), Body: m.stmts(0)}
		s := lang.Print(f)
		if strings.Contains(s, "  ") || strings.Contains(s, "( ") || strings.Contains(s, " )") || strings.Contains(s, ")(") {
			t.Fatalf("the blanks of %q", s)
		}
		if len(s) > api.MaxText {
			wantError(t, s, api.ErrMuch)
			continue
		}
		read++
		wantParse(t, s, f)
	}
	if read < 1000 {
		t.Errorf("only %d programs were read again", read)
	}
}

func TestParseOfAnyWords(t *testing.T) {
	all := strings.Fields("( ( ( ) ) ) fn pub sec let set put if for ret sel at + - & << = a b t i 0 1 8 9 4294967295 4294967296 Zap ? 07")
	m := maker{rand.New(rand.NewSource(4))}
	starts := []string{"", "(fn (", "(fn () (", "(fn () () ", "(fn () () (let pub x ", "(fn () () (if 1 (", "(fn () () (ret (", "(fn () () (for i 2 "}
	for range 20000 {
		s := starts[m.Intn(len(starts))]
		for range m.Intn(12) {
			s += all[m.Intn(len(all))] + " "
		}
		f, err := lang.Parse(s)
		switch {
		case err != api.OK:
			wantError(t, s, err)
		case strings.Join(strings.Fields(spread(s)), " ") != strings.Join(strings.Fields(spread(lang.Print(f))), " "):
			t.Errorf("%q is written as %q", s, lang.Print(f))
		}
	}
}

// spread sets brackets apart, so that texts have the same fields if they have the same words.
func spread(s string) string {
	return strings.NewReplacer("(", " ( ", ")", " ) ").Replace(s)
}

func FuzzParse(f *testing.F) {
	for _, s := range []string{whole, "", "(fn () ())", stepsText(len(steps)), "(fn\t() ())", "(fn () () (ret \xff))"} {
		f.Add(s)
	}
	f.Fuzz(func(t *testing.T, s string) {
		got, err := lang.Parse(s)
		if err != api.OK {
			wantError(t, s, err)
			return
		}
		if back := lang.Print(got); len(back) <= api.MaxText {
			wantParse(t, back, got)
		}
	})
}
