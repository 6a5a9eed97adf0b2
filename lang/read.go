package lang

import (
	"slices"
	"strings"

	"evenpace/api"
	"evenpace/word"
)

const (
	blanks = " \n"
	ends   = blanks + "()"
)

// words hands out the words of s, one with each call; an empty one, when there are no more.
func words(s string) func() string {
	return func() string {
		s = strings.TrimLeft(s, blanks)
		n := strings.IndexAny(s, ends)
		switch n {
		case -1:
			n = len(s)
		case 0:
			n = 1
		}
		first := s[:n]
		s = s[n:]
		return first
	}
}

// reader takes a program's words in turn. Once something is wrong it takes no more of them, so that its methods need not ask each other.
type reader struct {
	next func() string
	err  api.Errno
}

func (r *reader) fail(err api.Errno) {
	if r.err == api.OK {
		r.err = err
	}
}

// word takes a word that must be there; it is empty, if something is wrong.
func (r *reader) word() string {
	if r.err != api.OK {
		return ""
	}
	w := r.next()
	if w == "" {
		r.fail(api.ErrEnd)
	}
	return w
}

func (r *reader) must(want string) {
	if r.word() != want {
		r.fail(api.ErrForm)
	}
}

// list has each part read behind its `(`, up to the list's own `)`.
func (r *reader) list(part func()) {
	for r.err == api.OK {
		switch r.word() {
		case "(":
			part()
		case ")":
			return
		default:
			r.fail(api.ErrForm)
		}
	}
}

func (r *reader) program() api.Fn {
	var f api.Fn
	r.must("(")
	r.must("fn")
	r.must("(")
	r.list(func() { f.Params = append(f.Params, r.parameter()) })
	r.must("(")
	r.list(func() { f.Arrays = append(f.Arrays, r.array()) })
	f.Body = r.block(0)
	if r.next() != "" {
		r.fail(api.ErrForm)
	}
	return f
}

func (r *reader) parameter() api.Var {
	var v api.Var
	v.Secret = r.label()
	v.Name = r.name()
	r.must(")")
	return v
}

func (r *reader) array() api.Var {
	var v api.Var
	v.Secret = r.label()
	v.Name = r.name()
	v.Size = r.number(1, api.MaxSize)
	r.must(")")
	return v
}

// label tells whether it is `sec`.
func (r *reader) label() bool {
	w := r.word()
	if w != "pub" && w != "sec" {
		r.fail(api.ErrForm)
	}
	return w == "sec"
}

func (r *reader) name() string {
	w := r.word()
	if !Name(w) {
		r.fail(api.ErrName)
	}
	return own(w)
}

func (r *reader) number(from, to int) int {
	n, ok := word.Number(r.word())
	if !ok {
		r.fail(api.ErrForm)
	} else if n < from || n > to {
		r.fail(api.ErrRange)
	}
	return n
}

// block reads statements that have so many around them, and the `)` behind them.
func (r *reader) block(around int) []api.Stmt {
	var l []api.Stmt
	r.list(func() { l = append(l, r.stmt(around)) })
	return l
}

// stmt reads what stands behind a statement's `(`.
func (r *reader) stmt(around int) api.Stmt {
	var t api.Stmt
	if r.deep(around) {
		return t
	}
	exprs := func(n int) { t.Args = r.exprs(n, around+1) }
	t.Kind = api.StLet + slices.Index(strings.Fields(statements), r.word())
	switch t.Kind {
	case api.StLet:
		t.Secret = r.label()
		t.Name = r.name()
		exprs(1)
	case api.StSet:
		t.Name = r.name()
		exprs(1)
	case api.StPut:
		t.Name = r.name()
		exprs(2)
	case api.StIf:
		exprs(1)
		r.must("(")
		t.Then = r.block(around + 1)
		r.must("(")
		t.Else = r.block(around + 1)
	case api.StFor:
		t.Name = r.name()
		t.N = r.number(0, api.MaxSize)
		t.Then = r.block(around + 1)
		return t // the block's `)` is the loop's
	case api.StRet:
		exprs(1)
	default:
		r.fail(api.ErrKind)
	}
	r.must(")")
	return t
}

func (r *reader) exprs(n, around int) []api.Expr {
	var l []api.Expr
	for range n {
		l = append(l, r.expr(around))
	}
	return l
}

func (r *reader) expr(around int) api.Expr {
	if r.deep(around) {
		return api.Expr{}
	}
	w := r.word()
	if w == "(" {
		return r.made(around)
	}
	if n, ok := word.Number(w); ok {
		return api.Expr{Kind: api.ExNum, N: n}
	}
	if !Name(w) {
		r.fail(api.ErrName)
	}
	return api.Expr{Kind: api.ExName, Name: own(w)}
}

// made reads what stands behind the `(` of an expression that is made of others.
func (r *reader) made(around int) api.Expr {
	var e api.Expr
	exprs := func(kind, n int) { e.Kind, e.Args = kind, r.exprs(n, around+1) }
	switch w := r.word(); w {
	case "sel":
		exprs(api.ExSel, 3)
	case "at":
		e.Name = r.name()
		exprs(api.ExAt, 1)
	default:
		at := slices.Index(strings.Fields(signs), w)
		if at < 0 {
			r.fail(api.ErrKind)
		}
		e.N = api.OpAdd + at
		exprs(api.ExTwo, 2)
	}
	r.must(")")
	return e
}

// deep tells whether there are too many around; that counts ahead of any word, so it is asked first.
func (r *reader) deep(around int) bool {
	if around > api.MaxDeep {
		r.fail(api.ErrDeep)
	}
	return around > api.MaxDeep
}

// own copies a word, so that a program does not hold on to the text it was read from.
func own(w string) string {
	return strings.Clone(w)
}
