package eval

import (
	"slices"

	"evenpace/api"
	"evenpace/word"
)

// value works out an expression, and act does a statement, or several. They have hold of the words whose names they mention, so no name is looked for while they run. A value that trapped is 0, and its run over: whoever asked for it must look.
type (
	value func() int
	act   func()
)

// named is a name that is there, and the word that it stands for.
type named struct {
	name string
	word *int
}

// maker makes functions of the parts of a program, for one run.
type maker struct {
	run    *run
	arrays []api.Var
	names  []named
}

// program makes f's statements one act on r.
func program(f api.Fn, words []int, r *run) act {
	m := &maker{run: r, arrays: f.Arrays}
	for i, v := range f.Params {
		*m.name(v.Name) = words[i]
	}
	return m.block(f.Body)
}

// name has a new name there, up to the end of its block.
func (m *maker) name(s string) *int {
	v := named{name: s, word: new(int)}
	m.names = append(m.names, v)
	return v.word
}

// byName is the word that a name stands for. A name that is not there is in no right program: it stands for a word that nobody else has.
func (m *maker) byName(s string) *int {
	i := slices.IndexFunc(m.names, func(v named) bool { return v.name == s })
	if i < 0 {
		return new(int)
	}
	return m.names[i].word
}

// array is where an array of that name is; below 0, if there is none.
func (m *maker) array(s string) int {
	return slices.IndexFunc(m.arrays, func(v api.Var) bool { return v.Name == s })
}

func (m *maker) block(l []api.Stmt) act {
	ahead := len(m.names)
	acts := make([]act, len(l))
	for i, t := range l {
		acts[i] = m.stmt(t)
	}
	m.names = m.names[:ahead]
	return func() {
		for _, do := range acts {
			if !m.run.mayDo() {
				return
			}
			do()
		}
	}
}

func (m *maker) stmt(t api.Stmt) act {
	switch t.Kind {
	case api.StLet:
		e := m.part(t.Args, 0)
		return m.become(m.name(t.Name), e)
	case api.StSet:
		return m.become(m.byName(t.Name), m.part(t.Args, 0))
	case api.StPut:
		return m.put(t)
	case api.StIf:
		return m.choice(t)
	case api.StFor:
		return m.loop(t)
	case api.StRet:
		return m.with(m.part(t.Args, 0), m.run.end)
	}
	return func() {}
}

// with hands on what e is, unless that trapped.
func (m *maker) with(e value, then func(n int)) act {
	return func() {
		n := e()
		if !m.run.over {
			then(n)
		}
	}
}

func (m *maker) become(w *int, e value) act {
	return m.with(e, func(n int) { *w = n })
}

func (m *maker) put(t api.Stmt) act {
	array := m.array(t.Name)
	place, e := m.part(t.Args, 0), m.part(t.Args, 1)
	return func() {
		at, n := place(), e()
		if m.run.over {
			return
		}
		if w := m.run.spot(array, at); w != nil {
			*w = n
		}
	}
}

func (m *maker) choice(t api.Stmt) act {
	e := m.part(t.Args, 0)
	yes, no := m.block(t.Then), m.block(t.Else)
	return m.with(e, func(n int) {
		if n != 0 {
			yes()
		} else {
			no()
		}
	})
}

// loop has no rounds without statements: nothing comes of them, and nothing would count how many they are.
func (m *maker) loop(t api.Stmt) act {
	if len(t.Then) == 0 {
		return func() {}
	}
	ahead := len(m.names)
	w := m.name(t.Name)
	round := m.block(t.Then)
	m.names = m.names[:ahead]
	return func() {
		for i := 0; i < t.N && !m.run.over; i++ {
			*w = i
			round()
		}
	}
}

// expr makes a value that is a word, whatever e is.
func (m *maker) expr(e api.Expr) value {
	switch e.Kind {
	case api.ExNum:
		n := int(uint32(e.N))
		return func() int { return n }
	case api.ExName:
		w := m.byName(e.Name)
		return func() int { return *w }
	case api.ExTwo:
		return m.two(e)
	case api.ExSel:
		return m.sel(e)
	case api.ExAt:
		return m.at(e)
	}
	return func() int { return 0 }
}

func (m *maker) two(e api.Expr) value {
	op, a, b := e.N, m.part(e.Args, 0), m.part(e.Args, 1)
	return func() int {
		n, _ := word.Two(op, a(), b())
		return n
	}
}

// sel has all three worked out, whichever it is: a trap in one that is not chosen is one, too.
func (m *maker) sel(e api.Expr) value {
	a, b, c := m.part(e.Args, 0), m.part(e.Args, 1), m.part(e.Args, 2)
	return func() int { return word.Sel(a(), b(), c()) }
}

func (m *maker) at(e api.Expr) value {
	array, place := m.array(e.Name), m.part(e.Args, 0)
	return func() int {
		n := place()
		if m.run.over {
			return 0
		}
		if w := m.run.spot(array, n); w != nil {
			return *w
		}
		return 0
	}
}

// part is the value of the expression at a place of l; of none, if there is none.
func (m *maker) part(l []api.Expr, at int) value {
	if at < len(l) {
		return m.expr(l[at])
	}
	return m.expr(api.Expr{})
}
