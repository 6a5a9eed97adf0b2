package lower

import "evenpace/api"

// place is where e is: a name's own place, or a fresh one.
func (m *maker) place(e api.Expr) int {
	if e.Kind == api.ExName {
		return m.byName(e.Name)
	}
	return m.made(m.last(e))
}

// last does all of e but its last instruction, whose D is for others to say; and it tells whether that makes what is secret. Operands stay in their order, as a table may tell of one alone.
func (m *maker) last(e api.Expr) (api.Instr, bool) {
	if m.much {
		return constant(0), false
	}
	switch e.Kind {
	case api.ExNum:
		return constant(e.N), false
	case api.ExName:
		a := m.byName(e.Name)
		return api.Instr{Op: api.OpMove, A: a}, m.secret[a]
	case api.ExTwo:
		return m.two(e)
	case api.ExSel:
		return m.sel(e)
	case api.ExAt:
		return m.at(e)
	}
	return constant(0), false
}

func (m *maker) two(e api.Expr) (api.Instr, bool) {
	a, b := m.place(part(e.Args, 0)), m.place(part(e.Args, 1))
	if e.N < api.OpAdd || e.N > api.OpSame {
		return constant(0), false
	}
	return api.Instr{Op: e.N, A: a, B: b}, m.secret[a] || m.secret[b]
}

// sel has all three worked out, whichever it is, as chapter 5 has it: what is chosen may be secret, and must not lead.
func (m *maker) sel(e api.Expr) (api.Instr, bool) {
	a, b, c := m.place(part(e.Args, 0)), m.place(part(e.Args, 1)), m.place(part(e.Args, 2))
	return api.Instr{Op: api.OpSel, A: a, B: b, C: c}, m.secret[a] || m.secret[b] || m.secret[c]
}

func (m *maker) at(e api.Expr) (api.Instr, bool) {
	array, v := m.array(e.Name)
	at := m.place(part(e.Args, 0))
	m.bound(part(e.Args, 0), at, v.Size)
	return api.Instr{Op: api.OpLoad, A: at, B: array}, v.Secret
}

// bound leads to the trap, if the word of e, which is at a place, is not below size. A number that is needs no look: in the dark there are no others.
func (m *maker) bound(e api.Expr, at, size int) {
	if e.Kind == api.ExNum && e.N >= 0 && e.N < size {
		return
	}
	below := m.made(api.Instr{Op: api.OpLess, A: at, B: m.number(size)}, false)
	m.falls = append(m.falls, m.leap(api.Instr{Op: api.OpZero, A: below}))
}

// part is the expression at a place of l; of no kind, if there is none.
func part(l []api.Expr, at int) api.Expr {
	if at < len(l) {
		return l[at]
	}
	return api.Expr{}
}
