package fold

import (
	"slices"

	"evenpace/api"
	"evenpace/flow"
)

// reads tells which places are still read, while one goes through instructions from the last one back. As jumps lead on, and never back, all that is behind an instruction has been looked at then.
type reads struct {
	ranks map[int]int // of each place that is read at all
	now   set         // ranks of places that are read from here on
	from  map[int]set // likewise, from each instruction on to which others lead
}

// begin ranks places, as there may be many more than instructions read.
func begin(code []api.Instr) reads {
	ranks := map[int]int{}
	for _, i := range code {
		for _, p := range flow.Reads(i) {
			if _, there := ranks[p]; !there {
				ranks[p] = len(ranks)
			}
		}
	}
	return reads{ranks: ranks, now: make(set, len(ranks)/setBits+1), from: map[int]set{}}
}

// needed tells of each instruction whether it does not make something for nothing.
func needed(code []api.Instr) []bool {
	r := begin(code)
	led := ledTo(code)
	stay := make([]bool, len(code))
	for at, i := range slices.Backward(code) {
		stay[at] = r.past(i)
		if _, kept := led[at]; kept {
			r.from[at] = slices.Clone(r.now)
		}
	}
	return stay
}

// past goes from behind i to ahead of it, and tells whether i stays: what goes reads nothing.
func (r reads) past(i api.Instr) bool {
	switch i.Op {
	case api.OpJump:
		copy(r.now, r.from[i.Imm])
	case api.OpZero:
		r.now.join(r.from[i.Imm])
	case api.OpRet, api.OpTrap:
		clear(r.now)
	}
	if flow.Makes(i) && !r.made(i.D) {
		return false
	}
	for _, p := range flow.Reads(i) {
		r.now.add(r.ranks[p])
	}
	return true
}

// made tells whether place p was still read, which ends where it is made.
func (r reads) made(p int) bool {
	n, there := r.ranks[p]
	if !there || !r.now.has(n) {
		return false
	}
	r.now.drop(n)
	return true
}

// only has those of code that stay. As many as stay ahead of where a jump led are ahead of where it leads now, too: of that, or of the next one that stays.
func only(code []api.Instr, stay []bool) []api.Instr {
	ahead := make([]int, len(code))
	n := 0
	for at := range code {
		ahead[at] = n
		if stay[at] {
			n++
		}
	}
	out := make([]api.Instr, 0, n)
	for at, i := range code {
		if !stay[at] {
			continue
		}
		if leads(i) {
			i.Imm = ahead[i.Imm]
		}
		out = append(out, i)
	}
	return out
}
