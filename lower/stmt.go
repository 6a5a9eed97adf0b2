package lower

import "evenpace/api"

// way has a place become what is now, if it leads this way, else what was. Where nothing secret leads there is none: what is not to be done is jumped over there.
type way func(place, now, was int)

// ifSo is the way to which c leads, if it is not 0.
func (m *maker) ifSo(c int) way {
	return func(place, now, was int) {
		m.emit(api.Instr{Op: api.OpSel, D: place, A: c, B: now, C: was})
	}
}

// ifNot is the way to which c leads, if it is 0.
func (m *maker) ifNot(c int) way {
	return func(place, now, was int) {
		m.emit(api.Instr{Op: api.OpSel, D: place, A: c, B: was, C: now})
	}
}

// block has statements done, up to one behind which nothing is done any more; it tells whether there is one.
func (m *maker) block(l []api.Stmt, dark way) bool {
	ahead := len(m.names)
	ended := false
	for i := 0; i < len(l) && !ended && !m.much; i++ {
		ended = m.stmt(l[i], dark)
	}
	m.names = m.names[:ahead]
	return ended
}

func (m *maker) stmt(t api.Stmt, dark way) (ended bool) {
	switch t.Kind {
	case api.StLet:
		m.let(t)
	case api.StSet:
		m.set(t, dark)
	case api.StPut:
		m.put(t, dark)
	case api.StIf:
		return m.choice(t, dark)
	case api.StFor:
		return m.loop(t, dark)
	case api.StRet:
		m.emit(api.Instr{Op: api.OpRet, A: m.place(part(t.Args, 0))})
		return true
	}
	return false
}

// let needs no way: what it makes is not there on another one.
func (m *maker) let(t api.Stmt) {
	i, _ := m.last(part(t.Args, 0))
	m.call(t.Name, m.made(i, t.Secret))
}

func (m *maker) set(t api.Stmt, dark way) {
	place := m.byName(t.Name)
	if dark != nil {
		dark(place, m.place(part(t.Args, 0)), place)
		return
	}
	i, _ := m.last(part(t.Args, 0))
	i.D = place
	m.emit(i)
}

func (m *maker) put(t api.Stmt, dark way) {
	array, v := m.array(t.Name)
	at, now := m.place(part(t.Args, 0)), m.place(part(t.Args, 1))
	m.bound(part(t.Args, 0), at, v.Size)
	if dark != nil {
		was := m.made(api.Instr{Op: api.OpLoad, A: at, B: array}, v.Secret)
		either := m.fresh(true)
		dark(either, now, was)
		now = either
	}
	m.emit(api.Instr{Op: api.OpStore, D: now, A: at, B: array})
}

func (m *maker) choice(t api.Stmt, dark way) (ended bool) {
	e := part(t.Args, 0)
	c := m.place(e)
	if !m.secret[c] {
		return m.lead(t, c, dark)
	}
	if e.Kind == api.ExName {
		// Then may set the name, and Else still needs what it was.
		c = m.made(api.Instr{Op: api.OpMove, A: c}, true)
	}
	m.both(t, c, dark)
	return false
}

// lead has what c leads to done, and the other one jumped over.
func (m *maker) lead(t api.Stmt, c int, dark way) (ended bool) {
	toElse := m.leap(api.Instr{Op: api.OpZero, A: c})
	ended = m.block(t.Then, dark)
	if ended || len(t.Else) == 0 {
		toElse()
		return m.block(t.Else, dark) && ended
	}
	toEnd := m.leap(api.Instr{Op: api.OpJump})
	toElse()
	m.block(t.Else, dark)
	toEnd()
	return false
}

// both has both done. Where it does not lead this way in the dark around them, neither must do anything: there Then's c is 0, and Else's is not.
func (m *maker) both(t api.Stmt, c int, dark way) {
	if len(t.Then) > 0 {
		m.block(t.Then, m.ifSo(m.within(dark, c, 0)))
	}
	if len(t.Else) > 0 {
		m.block(t.Else, m.ifNot(m.within(dark, c, 1)))
	}
}

// within is c, if it leads this way, else another number.
func (m *maker) within(dark way, c, other int) int {
	if dark == nil {
		return c
	}
	place := m.fresh(true)
	dark(place, c, m.number(other))
	return place
}

// loop has its rounds one behind the other: jumps lead on, never back.
func (m *maker) loop(t api.Stmt, dark way) (ended bool) {
	if len(t.Then) == 0 {
		return false
	}
	ahead := len(m.names)
	for i := 0; i < t.N && !ended && !m.much; i++ {
		m.call(t.Name, m.number(i))
		ended = m.block(t.Then, dark)
		m.names = m.names[:ahead]
	}
	return ended
}
