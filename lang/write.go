package lang

import (
	"strconv"
	"strings"

	"evenpace/api"
)

// none is written for what there is not.
const none = "?"

// writer lays words behind each other, in one piece, so that deep programs are not copied level by level.
type writer struct{ out []byte }

func (w *writer) word(s string) {
	if n := len(w.out); n > 0 && w.out[n-1] != '(' && s != ")" {
		w.out = append(w.out, ' ')
	}
	w.out = append(w.out, s...)
}

func (w *writer) number(n int) {
	w.word(strconv.Itoa(n))
}

func (w *writer) label(secret bool) {
	if secret {
		w.word("sec")
	} else {
		w.word("pub")
	}
}

func (w *writer) bracketed(inside func()) {
	w.word("(")
	inside()
	w.word(")")
}

func (w *writer) program(f api.Fn) {
	w.bracketed(func() {
		w.word("fn")
		w.vars(f.Params, func(api.Var) {})
		w.vars(f.Arrays, func(v api.Var) { w.number(v.Size) })
		w.stmts(f.Body)
	})
}

// vars writes parameters, or arrays, each with what more there is of it.
func (w *writer) vars(l []api.Var, more func(api.Var)) {
	w.bracketed(func() {
		for _, v := range l {
			w.bracketed(func() {
				w.label(v.Secret)
				w.word(v.Name)
				more(v)
			})
		}
	})
}

func (w *writer) stmts(l []api.Stmt) {
	for _, t := range l {
		w.stmt(t)
	}
}

func (w *writer) block(l []api.Stmt) {
	w.bracketed(func() { w.stmts(l) })
}

func (w *writer) stmt(t api.Stmt) {
	if t.Kind < api.StLet || t.Kind > api.StRet {
		w.word(none)
		return
	}
	w.bracketed(func() {
		w.word(strings.Fields(statements)[t.Kind-api.StLet])
		switch t.Kind {
		case api.StLet:
			w.label(t.Secret)
			w.word(t.Name)
			w.exprs(t.Args, 1)
		case api.StSet:
			w.word(t.Name)
			w.exprs(t.Args, 1)
		case api.StPut:
			w.word(t.Name)
			w.exprs(t.Args, 2)
		case api.StIf:
			w.exprs(t.Args, 1)
			w.block(t.Then)
			w.block(t.Else)
		case api.StFor:
			w.word(t.Name)
			w.number(t.N)
			w.stmts(t.Then)
		case api.StRet:
			w.exprs(t.Args, 1)
		}
	})
}

// exprs writes the first n of l. One that is missing is of no kind.
func (w *writer) exprs(l []api.Expr, n int) {
	for i := range n {
		if i < len(l) {
			w.expr(l[i])
		} else {
			w.word(none)
		}
	}
}

func (w *writer) expr(e api.Expr) {
	switch {
	case e.Kind == api.ExNum:
		w.number(e.N)
	case e.Kind == api.ExName:
		w.word(e.Name)
	case e.Kind == api.ExTwo && e.N >= api.OpAdd && e.N <= api.OpSame:
		w.bracketed(func() {
			w.word(strings.Fields(signs)[e.N-api.OpAdd])
			w.exprs(e.Args, 2)
		})
	case e.Kind == api.ExSel:
		w.bracketed(func() {
			w.word("sel")
			w.exprs(e.Args, 3)
		})
	case e.Kind == api.ExAt:
		w.bracketed(func() {
			w.word("at")
			w.word(e.Name)
			w.exprs(e.Args, 1)
		})
	default:
		w.word(none)
	}
}
