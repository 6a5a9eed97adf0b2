package mach

import (
	"evenpace/api"
	"evenpace/eval"
	"evenpace/flow"
)

const (
	// In modeAll all operands are seen, in modeTable those that the table tells of.
	modeAll   = 0
	modeTable = 1
	// firstGiven is the slot of the first word that is given.
	firstGiven = 1
)

// Run has an image run, by a right table, of words, in a mode, with most steps at most.
func Run(img api.Image, t api.Table, g api.Given, mode, most int) api.Ran {
	l, err := Load(img)
	if err != api.OK {
		return api.Ran{Err: err}
	}
	if !fits(img, g, mode) {
		return api.Ran{Err: api.ErrMany}
	}
	// An image may lead back for ever, and leaks of what does not end would be kept for nothing: so it is run without them first.
	steps := 0
	if err := begin(l, g, mode).run(most, func(api.Instr) { steps++ }); err != api.OK {
		return api.Ran{Err: err}
	}
	m := begin(l, g, mode)
	leaks := make([]api.Leak, 0, steps)
	m.run(most, func(i api.Instr) { leaks = append(leaks, m.leak(i, t)) })
	return api.Ran{Ended: m.ended(), Steps: steps, Mode: m.mode, Leaks: leaks}
}

// fits tells whether img can be begun. How long arrays are is not asked: they are as long as they were given.
func fits(img api.Image, g api.Given, mode int) bool {
	if mode != modeAll && mode != modeTable || len(g.Words) != img.Params || img.Params >= api.MaxSlots {
		return false
	}
	return len(g.Arrays) == len(img.Arrays)
}

// machine does instructions over slots: it is ahead of the one at a number.
type machine struct {
	code  []api.Instr
	state flow.State
	mode  int
	at    int
}

func begin(l []api.Instr, g api.Given, mode int) *machine {
	s := flow.State{Places: make([]int, api.MaxSlots), Arrays: eval.Arrays(g.Arrays)}
	copy(s.Places[firstGiven:], g.Words)
	return &machine{code: l, state: s, mode: mode}
}

// run goes on up to what ends it, and has each step looked at ahead of doing it.
func (m *machine) run(most int, look func(api.Instr)) api.Errno {
	for range most {
		if m.at >= len(m.code) {
			return api.ErrEnd
		}
		i := m.code[m.at]
		look(i)
		if i.Op == api.OpRet || i.Op == api.OpTrap {
			return api.OK
		}
		m.do(i)
	}
	return api.ErrFuel
}

// do does i, which does not end it.
func (m *machine) do(i api.Instr) {
	slots := m.state.Places
	switch i.Op {
	case api.OpOn:
		slots[i.D], m.mode = m.mode, modeTable
		m.at++
	case api.OpBack:
		m.mode = slots[i.A] & 1
		m.at++
	default:
		m.at = m.state.Step(i, m.at)
	}
}

// leak is what is seen of i, which is next, by t.
func (m *machine) leak(i api.Instr, t api.Table) api.Leak {
	return api.Leak{At: m.at, Op: i.Op, Values: flow.Seen(t, i, m.state.Places, m.mode == modeAll)}
}

// ended is how it ends with the instruction that is next.
func (m *machine) ended() api.Ended {
	i := m.code[m.at]
	if i.Op == api.OpTrap {
		return api.Ended{Trap: true, Arrays: m.state.Arrays}
	}
	return api.Ended{Word: m.state.Places[i.A], Arrays: m.state.Arrays}
}
