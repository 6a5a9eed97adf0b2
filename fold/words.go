package fold

import (
	"evenpace/api"
	"evenpace/flow"
	"evenpace/word"
)

// words has the words of places that are known.
type words map[int]int

// past goes from ahead of i to behind it, and tells what is to be done for i.
func (w words) past(i api.Instr) api.Instr {
	if !flow.Makes(i) {
		return i
	}
	n, known := w.made(i)
	if !known {
		delete(w, i.D)
		return i
	}
	w[i.D] = n
	if i.Op == api.OpConst {
		return i
	}
	return api.Instr{Op: api.OpConst, D: i.D, Imm: n}
}

// made is the word that i makes, if all that it reads is known. What is in arrays never is.
func (w words) made(i api.Instr) (int, bool) {
	for _, p := range flow.Reads(i) {
		if _, known := w[p]; !known {
			return 0, false
		}
	}
	switch i.Op {
	case api.OpConst:
		return i.Imm, true
	case api.OpMove:
		return w[i.A], true
	case api.OpSel:
		return word.Sel(w[i.A], w[i.B], w[i.C]), true
	case api.OpLoad:
		return 0, false
	}
	n, err := word.Two(i.Op, w[i.A], w[i.B])
	return n, err == api.OK
}
