package lower

import (
	"slices"

	"evenpace/api"
)

// named is a name that is there, and the place of its word.
type named struct {
	name  string
	place int
}

// maker makes instructions of the parts of a program, one behind the other.
type maker struct {
	arrays []api.Var
	names  []named
	code   []api.Instr
	secret []bool
	falls  []func()
	much   bool
}

// fresh is a place that nothing else has. Places are not taken twice, so that each is needed as shortly as may be.
func (m *maker) fresh(secret bool) int {
	m.secret = append(m.secret, secret)
	return len(m.secret) - 1
}

// emit has i done behind all others. Once there is too much nothing more is laid down, or looked at: as each round, and each choice, lays something down, all ends, even what is no right program.
func (m *maker) emit(i api.Instr) {
	if len(m.code) == api.MaxCode {
		m.much = true
		return
	}
	m.code = append(m.code, i)
}

// made is a fresh place of what i makes.
func (m *maker) made(i api.Instr, secret bool) int {
	i.D = m.fresh(secret)
	m.emit(i)
	return i.D
}

// number is a fresh place of n.
func (m *maker) number(n int) int {
	return m.made(constant(n), false)
}

func constant(n int) api.Instr {
	return api.Instr{Op: api.OpConst, Imm: int(uint32(n))}
}

// leap has i done, which leads on to where it is not known yet: to what comes behind the call of land.
func (m *maker) leap(i api.Instr) (land func()) {
	at := len(m.code)
	m.emit(i)
	return func() {
		if at < len(m.code) {
			m.code[at].Imm = len(m.code)
		}
	}
}

// finish has it end where no statement does, and has one trap for all that lead there: jumps lead on, never back.
func (m *maker) finish(ended bool) {
	if !ended {
		m.emit(api.Instr{Op: api.OpRet, A: m.number(0)})
	}
	if len(m.falls) == 0 {
		return
	}
	for _, land := range m.falls {
		land()
	}
	m.emit(api.Instr{Op: api.OpTrap})
}

// call has a name there, up to the end of its block.
func (m *maker) call(name string, place int) {
	m.names = append(m.names, named{name, place})
}

// byName is the place of a name. One that is not there is in no right program: it is 0.
func (m *maker) byName(name string) int {
	i := slices.IndexFunc(m.names, func(v named) bool { return v.name == name })
	if i < 0 {
		return m.number(0)
	}
	return m.names[i].place
}

// array is which array has that name. One that is not there is in no right program: it has no words.
func (m *maker) array(name string) (int, api.Var) {
	i := slices.IndexFunc(m.arrays, func(v api.Var) bool { return v.Name == name })
	if i < 0 {
		return 0, api.Var{}
	}
	return i, m.arrays[i]
}
