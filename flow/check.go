package flow

import (
	"slices"

	"evenpace/api"
	"evenpace/word"
)

// nowhere stands where no instruction is at fault.
const nowhere = -1

// Check tells why f's instructions are not right, and which one is at fault; OK, if they are right.
func Check(f api.Flat) (api.Errno, int) {
	if len(f.Code) < 1 || len(f.Code) > api.MaxCode || f.Params < 0 || f.Params > len(f.Secret) {
		return api.ErrMuch, nowhere
	}
	for at := range f.Code {
		if err := wrong(f, at); err != api.OK {
			return err, at
		}
	}
	last := len(f.Code) - 1
	if !mayBeLast(f.Code[last].Op) {
		return api.ErrEnd, last
	}
	return api.OK, nowhere
}

// wrong tells what is wrong with the instruction there. Labels come last: they can be asked of places and arrays that are there, only.
func wrong(f api.Flat, at int) api.Errno {
	i := f.Code[at]
	switch {
	case i.Op < api.OpAdd || i.Op > api.OpTrap:
		return api.ErrKind
	case !inRange(f, at):
		return api.ErrRange
	case spills(f, i):
		return api.ErrLabel
	}
	return api.OK
}

// inRange tells whether all that the instruction there mentions is there, too. Jumps lead on, never back, so that every run ends.
func inRange(f api.Flat, at int) bool {
	i := f.Code[at]
	if Makes(i) && !within(i.D, len(f.Secret)) {
		return false
	}
	if slices.ContainsFunc(Reads(i), func(p int) bool { return !within(p, len(f.Secret)) }) {
		return false
	}
	switch i.Op {
	case api.OpConst:
		return word.Is(i.Imm)
	case api.OpLoad, api.OpStore:
		return within(i.B, len(f.Arrays))
	case api.OpJump, api.OpZero:
		return i.Imm > at && i.Imm < len(f.Code)
	}
	return true
}

// spills tells whether i leads, or finds a place in an array, by what is secret, or makes something public of it.
func spills(f api.Flat, i api.Instr) bool {
	switch i.Op {
	case api.OpLoad:
		return f.Secret[i.A] || f.Arrays[i.B].Secret && !f.Secret[i.D]
	case api.OpStore:
		return f.Secret[i.A] || f.Secret[i.D] && !f.Arrays[i.B].Secret
	case api.OpZero:
		return f.Secret[i.A]
	}
	return Makes(i) && !f.Secret[i.D] && slices.ContainsFunc(Reads(i), func(p int) bool { return f.Secret[p] })
}

// mayBeLast tells whether such an op never leads to the instruction next to it.
func mayBeLast(op int) bool {
	return op == api.OpJump || op == api.OpRet || op == api.OpTrap
}

func within(n, size int) bool {
	return n >= 0 && n < size
}
