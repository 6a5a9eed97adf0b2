package lower_test

import (
	"slices"
	"strconv"

	"evenpace/api"
	"evenpace/word"
)

// reads has the places that i reads, and makes whether it makes D: plain readings of chapter 7, with no part in how instructions came to be.
func reads(i api.Instr) []int {
	switch i.Op {
	case api.OpSel:
		return []int{i.A, i.B, i.C}
	case api.OpStore:
		return []int{i.A, i.D}
	case api.OpMove, api.OpLoad, api.OpZero, api.OpRet:
		return []int{i.A}
	case api.OpConst, api.OpJump, api.OpTrap:
		return nil
	}
	return []int{i.A, i.B}
}

func makes(i api.Instr) bool {
	return i.Op <= api.OpLoad
}

// wrong tells why instructions are not right; "", if they are.
func wrong(f api.Flat) string {
	if len(f.Code) < 1 || len(f.Code) > api.MaxCode || f.Params < 0 || f.Params > len(f.Secret) {
		return "there are too many, or too few"
	}
	for at, i := range f.Code {
		if why := wrongInstr(f, at, i); why != "" {
			return strconv.Itoa(at) + ": " + why
		}
	}
	if !slices.Contains([]int{api.OpJump, api.OpRet, api.OpTrap}, f.Code[len(f.Code)-1].Op) {
		return "they do not end"
	}
	return ""
}

func wrongInstr(f api.Flat, at int, i api.Instr) string {
	if i.Op < api.OpAdd || i.Op > api.OpTrap {
		return "there is no such kind"
	}
	places := reads(i)
	if makes(i) {
		places = append(places, i.D)
	}
	for _, p := range places {
		if p < 0 || p >= len(f.Secret) {
			return "there is no such place"
		}
	}
	leads := i.Op == api.OpJump || i.Op == api.OpZero
	inArray := i.Op == api.OpLoad || i.Op == api.OpStore
	switch {
	case i.Op == api.OpConst && !word.Is(i.Imm):
		return "it is no word"
	case inArray && (i.B < 0 || i.B >= len(f.Arrays)):
		return "there is no such array"
	case leads && (i.Imm <= at || i.Imm >= len(f.Code)):
		return "it leads back, or to nothing"
	case shows(f, i):
		return "it shows what is secret"
	case i != onlyItsOwn(i):
		return "it has fields that its kind has not"
	}
	return ""
}

func shows(f api.Flat, i api.Instr) bool {
	switch i.Op {
	case api.OpLoad:
		return f.Secret[i.A] || f.Arrays[i.B].Secret && !f.Secret[i.D]
	case api.OpStore:
		return f.Secret[i.A] || f.Secret[i.D] && !f.Arrays[i.B].Secret
	case api.OpZero:
		return f.Secret[i.A]
	}
	secret := slices.ContainsFunc(reads(i), func(p int) bool { return f.Secret[p] })
	return makes(i) && secret && !f.Secret[i.D]
}

// onlyItsOwn is i with nothing in fields that its kind has not.
func onlyItsOwn(i api.Instr) api.Instr {
	switch i.Op {
	case api.OpSel:
		return api.Instr{Op: i.Op, D: i.D, A: i.A, B: i.B, C: i.C}
	case api.OpConst:
		return api.Instr{Op: i.Op, D: i.D, Imm: i.Imm}
	case api.OpMove:
		return api.Instr{Op: i.Op, D: i.D, A: i.A}
	case api.OpJump:
		return api.Instr{Op: i.Op, Imm: i.Imm}
	case api.OpZero:
		return api.Instr{Op: i.Op, A: i.A, Imm: i.Imm}
	case api.OpRet:
		return api.Instr{Op: i.Op, A: i.A}
	case api.OpTrap:
		return api.Instr{Op: i.Op}
	}
	return api.Instr{Op: i.Op, D: i.D, A: i.A, B: i.B}
}

// flatRun is how right instructions end; and which were done, each with the words of the places that it reads and that are not secret.
func flatRun(f api.Flat, g api.Given) (api.Ended, []int) {
	places := make([]int, len(f.Secret))
	copy(places, g.Words)
	var arrays [][]int
	for _, l := range g.Arrays {
		arrays = append(arrays, slices.Clone(l))
	}
	var seen []int
	for at := 0; ; {
		i := f.Code[at]
		seen = append(seen, at, i.Op)
		for _, p := range reads(i) {
			if !f.Secret[p] {
				seen = append(seen, places[p])
			}
		}
		at++
		switch i.Op {
		case api.OpJump:
			at = i.Imm
		case api.OpZero:
			if places[i.A] == 0 {
				at = i.Imm
			}
		case api.OpRet:
			return api.Ended{Word: places[i.A], Arrays: arrays}, seen
		case api.OpTrap:
			return api.Ended{Trap: true, Arrays: arrays}, seen
		default:
			step(i, places, arrays)
		}
	}
}

func step(i api.Instr, places []int, arrays [][]int) {
	switch i.Op {
	case api.OpSel:
		places[i.D] = word.Sel(places[i.A], places[i.B], places[i.C])
	case api.OpConst:
		places[i.D] = i.Imm
	case api.OpMove:
		places[i.D] = places[i.A]
	case api.OpLoad:
		n := 0
		if l := arrays[i.B]; places[i.A] < len(l) {
			n = l[places[i.A]]
		}
		places[i.D] = n
	case api.OpStore:
		if l := arrays[i.B]; places[i.A] < len(l) {
			l[places[i.A]] = places[i.D]
		}
	default:
		places[i.D], _ = word.Two(i.Op, places[i.A], places[i.B])
	}
}
