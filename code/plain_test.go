package code_test

import (
	"slices"

	"evenpace/api"
	"evenpace/word"
)

// A plain reading of chapter 11, with no part in how the program does.

// plainRead has the instructions of an image, if a machine would take them.
func plainRead(m api.Image) ([]api.Instr, bool) {
	if len(m.Bytes) == 0 || len(m.Bytes)%8 != 0 {
		return nil, false
	}
	var l []api.Instr
	for b := m.Bytes; len(b) > 0; b = b[8:] {
		i := api.Instr{Op: int(b[0]), D: int(b[1]), A: int(b[2]), B: int(b[3])}
		last := int(b[4])<<24 | int(b[5])<<16 | int(b[6])<<8 | int(b[7])
		if i.Op == api.OpSel {
			i.C = last
		} else {
			i.Imm = last
		}
		toArray := i.Op == api.OpLoad || i.Op == api.OpStore
		if i.Op < api.OpAdd || i.Op > api.OpBack || i.C > 255 || i.D >= api.MaxSlots || toArray && i.B >= len(m.Arrays) {
			return nil, false
		}
		if slices.ContainsFunc(plainReads(i), func(p int) bool { return p >= api.MaxSlots }) {
			return nil, false
		}
		l = append(l, i)
	}
	return l, true
}

func plainReads(i api.Instr) []int {
	switch i.Op {
	case api.OpSel:
		return []int{i.A, i.B, i.C}
	case api.OpStore:
		return []int{i.A, i.D}
	case api.OpMove, api.OpLoad, api.OpZero, api.OpRet, api.OpBack:
		return []int{i.A}
	case api.OpConst, api.OpJump, api.OpTrap, api.OpOn:
		return nil
	}
	return []int{i.A, i.B}
}

// plainSeenOf has the places whose words are seen of i: in mode 0 all that may be.
func plainSeenOf(t api.Table, i api.Instr, mode int) []int {
	if i.Op == api.OpZero {
		return []int{i.A}
	}
	if i.Op > api.OpStore || i.Op == api.OpConst {
		return nil
	}
	var l []int
	for k, p := range plainReads(i) {
		if mode == 0 || t.Seen[i.Op]>>k&1 == 1 {
			l = append(l, p)
		}
	}
	return l
}

// machine has slots, arrays and a mode.
type machine struct {
	slots  [api.MaxSlots]int
	arrays [][]int
	mode   int
}

// do does i, which does not end it, and tells which one is next.
func (m *machine) do(i api.Instr, at int) int {
	s := &m.slots
	switch i.Op {
	case api.OpSel:
		s[i.D] = word.Sel(s[i.A], s[i.B], s[i.C])
	case api.OpConst:
		s[i.D] = i.Imm
	case api.OpMove:
		s[i.D] = s[i.A]
	case api.OpLoad:
		n := 0
		if l := m.arrays[i.B]; s[i.A] < len(l) {
			n = l[s[i.A]]
		}
		s[i.D] = n
	case api.OpStore:
		if l := m.arrays[i.B]; s[i.A] < len(l) {
			l[s[i.A]] = s[i.D]
		}
	case api.OpJump:
		return i.Imm
	case api.OpZero:
		if s[i.A] == 0 {
			return i.Imm
		}
	case api.OpOn:
		s[i.D], m.mode = m.mode, 1
	case api.OpBack:
		m.mode = s[i.A] & 1
	default:
		s[i.D], _ = word.Two(i.Op, s[i.A], s[i.B])
	}
	return at + 1
}

// plainRun has an image run, with 2 times MaxCode steps at most.
func plainRun(img api.Image, t api.Table, g api.Given, mode int) api.Ran {
	code, ok := plainRead(img)
	if !ok {
		return api.Ran{Err: api.ErrForm}
	}
	if img.Params >= api.MaxSlots || len(g.Words) != img.Params || len(g.Arrays) != len(img.Arrays) {
		return api.Ran{Err: api.ErrMany}
	}
	m := &machine{mode: mode}
	copy(m.slots[1:], g.Words)
	for _, l := range g.Arrays {
		m.arrays = append(m.arrays, slices.Clone(l))
	}
	var leaks []api.Leak
	for at := 0; ; {
		if len(leaks) == 2*api.MaxCode {
			return api.Ran{Err: api.ErrFuel}
		}
		if at >= len(code) {
			return api.Ran{Err: api.ErrEnd}
		}
		i := code[at]
		l := api.Leak{At: at, Op: i.Op}
		for _, p := range plainSeenOf(t, i, m.mode) {
			l.Values = append(l.Values, m.slots[p])
		}
		leaks = append(leaks, l)
		if i.Op == api.OpRet || i.Op == api.OpTrap {
			end := api.Ended{Trap: i.Op == api.OpTrap, Arrays: m.arrays}
			if i.Op == api.OpRet {
				end.Word = m.slots[i.A]
			}
			return api.Ran{Ended: end, Steps: len(leaks), Mode: m.mode, Leaks: leaks}
		}
		at = m.do(i, at)
	}
}

// plainDone does flat instructions of what fits, as chapter 7 has it: over as many places as there are, which are noughts at first.
func plainDone(f api.Flat, g api.Given) api.Ended {
	places := make([]int, len(f.Secret))
	copy(places, g.Words)
	var arrays [][]int
	for _, l := range g.Arrays {
		arrays = append(arrays, slices.Clone(l))
	}
	for at := 0; ; {
		i := f.Code[at]
		switch i.Op {
		case api.OpRet:
			return api.Ended{Word: places[i.A], Arrays: arrays}
		case api.OpTrap:
			return api.Ended{Trap: true, Arrays: arrays}
		}
		at = plainStep(places, arrays, i, at)
	}
}

func plainStep(places []int, arrays [][]int, i api.Instr, at int) int {
	switch i.Op {
	case api.OpSel:
		places[i.D] = word.Sel(places[i.A], places[i.B], places[i.C])
	case api.OpConst:
		places[i.D] = i.Imm
	case api.OpMove:
		places[i.D] = places[i.A]
	case api.OpLoad:
		n := 0
		if l := arrays[i.B]; places[i.A] < len(l) {
			n = l[places[i.A]]
		}
		places[i.D] = n
	case api.OpStore:
		if l := arrays[i.B]; places[i.A] < len(l) {
			l[places[i.A]] = places[i.D]
		}
	case api.OpJump:
		return i.Imm
	case api.OpZero:
		if places[i.A] == 0 {
			return i.Imm
		}
	default:
		places[i.D], _ = word.Two(i.Op, places[i.A], places[i.B])
	}
	return at + 1
}

// atOnce is how many places are needed at once, counted where each instruction is, and at the beginning: each from where it is mentioned first to where last.
func atOnce(f api.Flat) int {
	first, last := map[int]int{}, map[int]int{}
	for p := range f.Params {
		first[p], last[p] = 0, 0
	}
	for at, i := range f.Code {
		l := plainReads(i)
		if i.Op <= api.OpLoad {
			l = append(l, i.D)
		}
		for _, p := range l {
			if _, there := first[p]; !there {
				first[p] = at + 1
			}
			last[p] = at + 1
		}
	}
	most := 0
	for at := range len(f.Code) + 1 {
		n := 0
		for p, from := range first {
			if from <= at && at <= last[p] {
				n++
			}
		}
		most = max(most, n)
	}
	return most
}
