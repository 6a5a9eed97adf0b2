package code

import (
	"evenpace/api"
	"evenpace/flow"
)

const (
	// modeSlot has the mode in which it began. No place has it: what is given begins behind it.
	modeSlot  = 0
	beginning = -1
)

// span is from where a place is mentioned first to where last, and the slot that it has from there to there. As jumps lead on, and never back, no other place's word gets in between.
type span struct{ first, last, slot int }

// spans has the span of each place that is mentioned, or given.
type spans map[int]span

// spansOf tells where places are needed, and gives each a slot; false, if there are too few.
func spansOf(f api.Flat) (spans, bool) {
	if f.Params >= api.MaxSlots {
		return nil, false
	}
	s := spans{}
	for p := range f.Params {
		s[p] = span{first: beginning, last: beginning}
	}
	for at, i := range f.Code {
		for _, p := range mentions(i) {
			s.mention(p, at)
		}
	}
	return s, s.fill(f)
}

// mentions has the places that i reads, or makes.
func mentions(i api.Instr) []int {
	l := flow.Reads(i)
	if flow.Makes(i) {
		l = append(l, i.D)
	}
	return l
}

func (s spans) mention(p, at int) {
	v, there := s[p]
	if !there {
		v.first = at
	}
	v.last = at
	s[p] = v
}

// fill goes from the first instruction on, so that it finds slots as long as no more places are needed at once. What is given comes first, in turn, as the machine has it.
func (s spans) fill(f api.Flat) bool {
	var taken [api.MaxSlots]bool
	taken[modeSlot] = true
	var given []int
	for p := range f.Params {
		given = append(given, p)
	}
	if !s.through(given, beginning, &taken) {
		return false
	}
	for at, i := range f.Code {
		if !s.through(mentions(i), at, &taken) {
			return false
		}
	}
	return true
}

// through goes past where places are mentioned: what is needed from there on takes a slot ahead of what is needed up to there leaving its own.
func (s spans) through(places []int, at int, taken *[api.MaxSlots]bool) bool {
	for _, p := range places {
		if !s.take(p, taken) {
			return false
		}
	}
	for _, p := range places {
		if s[p].last == at {
			taken[s[p].slot] = false
		}
	}
	return true
}

// take gives p the first slot that is free, if it has none.
func (s spans) take(p int, taken *[api.MaxSlots]bool) bool {
	v := s[p]
	if v.slot != modeSlot {
		return true
	}
	for k, is := range taken {
		if !is {
			taken[k], v.slot = true, k
			s[p] = v
			return true
		}
	}
	return false
}

// inSlots is i over slots; fields that mean nothing are noughts, as not all numbers have bytes.
func (s spans) inSlots(i api.Instr) api.Instr {
	out := api.Instr{Op: i.Op}
	read := []*int{&out.A, &out.B, &out.C}
	if i.Op == api.OpStore {
		read[1] = &out.D
	}
	for k, p := range flow.Reads(i) {
		*read[k] = s[p].slot
	}
	if flow.Makes(i) {
		out.D = s[i.D].slot
	}
	switch i.Op {
	case api.OpLoad, api.OpStore:
		out.B = i.B
	case api.OpConst, api.OpJump, api.OpZero:
		out.Imm = i.Imm
	}
	return out
}
