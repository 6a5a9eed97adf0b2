package flow

import (
	"evenpace/api"
	"evenpace/eval"
	"evenpace/table"
	"evenpace/word"
)

// Seen has the words that are seen of i, by a right table, of places with the words v; all has all of its operands seen, whatever the table.
func Seen(t api.Table, i api.Instr, v []int, all bool) []int {
	bits := seenBits(t, i.Op, all)
	var out []int
	for k, p := range Reads(i) {
		if bits&(api.SeenA<<k) != 0 && within(p, len(v)) {
			out = append(out, v[p])
		}
	}
	return out
}

// seenBits tells which operands of op are seen. Where OpZero leads shows its A, so no table can hide it.
func seenBits(t api.Table, op int, all bool) int {
	switch {
	case op == api.OpZero:
		return api.SeenA
	case all || op < api.OpAdd || op > api.OpStore:
		return table.All(op)
	}
	return t.Seen[op]
}

// Run does right instructions, of what fits, by a right table: how they end, and what is seen. Others are not done at all: nothing is promised of them, and they might not end.
func Run(f api.Flat, t api.Table, g api.Given) (api.Ended, []api.Leak) {
	if err, _ := Check(f); err != api.OK || !fits(f, g) {
		return api.Ended{}, nil
	}
	s := begin(f, g)
	var leaks []api.Leak
	for at := 0; ; {
		i := f.Code[at]
		leaks = append(leaks, api.Leak{At: at, Op: i.Op, Values: Seen(t, i, s.Places, false)})
		switch i.Op {
		case api.OpRet:
			return api.Ended{Word: s.Places[i.A], Arrays: s.Arrays}, leaks
		case api.OpTrap:
			return api.Ended{Trap: true, Arrays: s.Arrays}, leaks
		}
		at = s.Step(i, at)
	}
}

// fits tells whether g is what f must be given; as chapter 5 tells it of a program with such parameters, and arrays.
func fits(f api.Flat, g api.Given) bool {
	return eval.Fits(api.Fn{Params: make([]api.Var, f.Params), Arrays: f.Arrays}, g) == api.OK
}

// State has the words of places, and arrays, while instructions are done. A machine's slots are its places.
type State struct {
	Places []int
	Arrays [][]int
}

func begin(f api.Flat, g api.Given) State {
	s := State{Places: make([]int, len(f.Secret)), Arrays: eval.Arrays(g.Arrays)}
	copy(s.Places, g.Words)
	return s
}

// Step does i, which is at a number and does not end it, and tells which one is next. Places that i mentions, and its array, must be there.
func (s State) Step(i api.Instr, at int) int {
	switch i.Op {
	case api.OpJump:
		return i.Imm
	case api.OpZero:
		if s.Places[i.A] == 0 {
			return i.Imm
		}
	case api.OpStore:
		if w := s.spot(i); w != nil {
			*w = s.Places[i.D]
		}
	default:
		s.Places[i.D] = s.made(i)
	}
	return at + 1
}

// made is the word that i makes.
func (s State) made(i api.Instr) int {
	switch i.Op {
	case api.OpSel:
		return word.Sel(s.Places[i.A], s.Places[i.B], s.Places[i.C])
	case api.OpConst:
		return i.Imm
	case api.OpMove:
		return s.Places[i.A]
	case api.OpLoad:
		if w := s.spot(i); w != nil {
			return *w
		}
		return 0
	}
	n, _ := word.Two(i.Op, s.Places[i.A], s.Places[i.B])
	return n
}

// spot is the word of array B at A; nil, if there is none. A machine may be given what is no word, so that A's may be below 0.
func (s State) spot(i api.Instr) *int {
	l := s.Arrays[i.B]
	if at := s.Places[i.A]; within(at, len(l)) {
		return &l[at]
	}
	return nil
}
