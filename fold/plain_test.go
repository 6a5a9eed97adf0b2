package fold_test

import (
	"slices"

	"evenpace/api"
	"evenpace/word"
)

// A plain reading of chapter 9, with no part in how the program does.

func plainMakes(i api.Instr) bool {
	return i.Op >= api.OpAdd && i.Op <= api.OpLoad
}

func plainReads(i api.Instr) []int {
	switch {
	case i.Op <= api.OpSame:
		return []int{i.A, i.B}
	case i.Op == api.OpSel:
		return []int{i.A, i.B, i.C}
	case i.Op == api.OpMove, i.Op == api.OpLoad, i.Op == api.OpZero, i.Op == api.OpRet:
		return []int{i.A}
	case i.Op == api.OpStore:
		return []int{i.A, i.D}
	}
	return nil
}

func plainLeads(i api.Instr) bool {
	return i.Op == api.OpJump || i.Op == api.OpZero
}

// isLedTo tells whether some instruction leads to the one there.
func isLedTo(code []api.Instr, at int) bool {
	return slices.ContainsFunc(code, func(i api.Instr) bool { return plainLeads(i) && i.Imm == at })
}

// unknown stands where a place has no word that is known.
const unknown = -1

func plainNumbers(f api.Flat) api.Flat {
	out := clone(f)
	known := slices.Repeat([]int{unknown}, len(f.Secret))
	for at, i := range f.Code {
		if isLedTo(f.Code, at) {
			known = slices.Repeat([]int{unknown}, len(f.Secret))
		}
		if !plainMakes(i) {
			continue
		}
		if i.Op == api.OpConst {
			known[i.D] = i.Imm
			continue
		}
		if i.Op == api.OpLoad || slices.ContainsFunc(plainReads(i), func(p int) bool { return known[p] == unknown }) {
			known[i.D] = unknown
			continue
		}
		n := 0
		switch i.Op {
		case api.OpMove:
			n = known[i.A]
		case api.OpSel:
			n = word.Sel(known[i.A], known[i.B], known[i.C])
		default:
			n, _ = word.Two(i.Op, known[i.A], known[i.B])
		}
		known[i.D] = n
		out.Code[at] = api.Instr{Op: api.OpConst, D: i.D, Imm: n}
	}
	return out
}

// isRead goes on every way from an instruction on, and tells whether p is read on one of them, ahead of being made, by what stays.
func isRead(code []api.Instr, stay []bool, at, p int) bool {
	seen := make([]bool, len(code))
	ways := []int{at}
	for len(ways) > 0 {
		at = ways[0]
		ways = ways[1:]
		if seen[at] {
			continue
		}
		seen[at] = true
		i := code[at]
		if stay[at] && slices.Contains(plainReads(i), p) {
			return true
		}
		if plainMakes(i) && i.D == p {
			continue
		}
		if plainLeads(i) {
			ways = append(ways, i.Imm)
		}
		if i.Op < api.OpJump || i.Op == api.OpZero {
			ways = append(ways, at+1)
		}
	}
	return false
}

// plainStay has what makes something for nothing go, one at a time, until nothing more goes.
func plainStay(code []api.Instr) []bool {
	stay := slices.Repeat([]bool{true}, len(code))
	for more := true; more; {
		more = false
		for at, i := range code {
			if stay[at] && plainMakes(i) && !isRead(code, stay, at+1, i.D) {
				stay[at], more = false, true
			}
		}
	}
	return stay
}

func plainUsed(f api.Flat) api.Flat {
	out := clone(f)
	out.Code = nil
	stay := plainStay(f.Code)
	for at, i := range f.Code {
		if !stay[at] {
			continue
		}
		if plainLeads(i) {
			to := i.Imm
			for !stay[to] {
				to++
			}
			i.Imm = 0
			for _, s := range stay[:to] {
				if s {
					i.Imm++
				}
			}
		}
		out.Code = append(out.Code, i)
	}
	return out
}
