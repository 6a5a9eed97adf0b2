package code

import (
	"slices"

	"evenpace/api"
	"evenpace/flow"
)

// noughts tells which slots must be made noughts, as places are at first: others, that had these slots, may have left something there.
type noughts struct {
	ahead  map[int][]int // of an instruction that mentions their places first
	across map[int][]int // where an instruction leads past what mentions their places first
}

// wants tells of each slot which instruction, counted from 1, mentions the place that has it first, if that may be read ahead of being made; else 0. What is given is never a nought: it is 0 there, too.
type wants [api.MaxSlots]int

// noughtsOf goes from the last instruction back, so that what is wanted behind one is known.
func noughtsOf(code []api.Instr, s spans) noughts {
	n := noughts{ahead: map[int][]int{}, across: map[int][]int{}}
	var now wants
	from := map[int]wants{}
	for _, i := range code {
		if leads(i) {
			from[i.Imm] = wants{}
		}
	}
	for at, i := range slices.Backward(code) {
		if leads(i) {
			led := from[i.Imm]
			if l := led.drop(at); l != nil {
				n.across[at] = l
			}
			now = joined(now, led, i.Op == api.OpZero)
		}
		now.past(i, s)
		if l := now.drop(at - 1); l != nil {
			n.ahead[at] = l
		}
		if _, led := from[at]; led {
			from[at] = now
		}
	}
	return n
}

// drop takes those out whose places are mentioned first behind an instruction, and tells which slots they are.
func (w *wants) drop(at int) []int {
	var l []int
	for slot, first := range w {
		if first-1 > at {
			l = append(l, slot)
			w[slot] = 0
		}
	}
	return l
}

// joined is what is wanted where an instruction leads, and, if it leads on to the next one as well, what is wanted there. A slot that both want has one place in both.
func joined(next, led wants, both bool) wants {
	if both {
		for slot, first := range next {
			led[slot] = max(led[slot], first)
		}
	}
	return led
}

// past goes from behind i to ahead of it.
func (w *wants) past(i api.Instr, s spans) {
	if ends(i) {
		*w = wants{}
	}
	if flow.Makes(i) {
		w[s[i.D].slot] = 0
	}
	for _, p := range flow.Reads(i) {
		w[s[p].slot] = s[p].first + 1
	}
}
