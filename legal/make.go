package legal

import (
	"slices"

	"evenpace/api"
	"evenpace/flow"
)

// maker lays instructions one behind the other, by a table.
type maker struct {
	table   api.Table
	code    []api.Instr
	secret  []int // of each place 1, if it is secret, else 0: as words that flow.Seen tells of
	numbers map[int]int
	shown   bool
}

func begin(f api.Flat, t api.Table) *maker {
	m := &maker{table: t, numbers: map[int]int{}}
	for _, secret := range f.Secret {
		if secret {
			m.secret = append(m.secret, 1)
		} else {
			m.secret = append(m.secret, 0)
		}
	}
	return m
}

// forget has nothing laid down, over so many places.
func (m *maker) forget(places int) {
	m.code, m.secret = m.code[:0], m.secret[:places]
}

// labels tells which places are secret.
func (m *maker) labels() []bool {
	l := make([]bool, len(m.secret))
	for p, secret := range m.secret {
		l[p] = secret == 1
	}
	return l
}

// legal lays i down as it is, if it shows nothing, else what it is done by.
func (m *maker) legal(i api.Instr) {
	if !m.shows(i) || !m.otherwise(i) {
		m.emit(i)
		return
	}
	// The last one made a fresh place of what i makes. It makes D instead, and none ahead of it does: i may read what was in D.
	last := &m.code[len(m.code)-1]
	m.secret = m.secret[:last.D]
	last.D = i.D
}

// shows tells whether one of the places whose words are seen of i is secret.
func (m *maker) shows(i api.Instr) bool {
	return slices.Contains(flow.Seen(m.table, i, m.secret, false), 1)
}

func (m *maker) emit(i api.Instr) {
	m.shown = m.shown || m.shows(i)
	m.code = append(m.code, i)
}

// made is a fresh place of what i makes, secret if something that it reads is. No place is taken twice, so that each is needed as shortly as may be.
func (m *maker) made(i api.Instr) int {
	secret := 0
	for _, p := range flow.Reads(i) {
		secret |= m.secret[p]
	}
	i.D = len(m.secret)
	m.emit(i)
	m.secret = append(m.secret, secret)
	return i.D
}

func (m *maker) two(op, a, b int) int {
	return m.made(api.Instr{Op: op, A: a, B: b})
}

// number is a place of n, which is not secret: how far something is moved may be seen. It is made once for each instruction that is done otherwise, not for all of them, as jumps might lead past it.
func (m *maker) number(n int) int {
	p, there := m.numbers[n]
	if !there {
		p = m.made(api.Instr{Op: api.OpConst, Imm: n})
		m.numbers[n] = p
	}
	return p
}
