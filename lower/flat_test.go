package lower_test

import (
	"strconv"

	"evenpace/api"
	"evenpace/flow"
	"evenpace/table"
)

// wrong tells why instructions are not as they must be; "", if they are.
func wrong(f api.Flat) string {
	if err, at := flow.Check(f); err != api.OK {
		return strconv.Itoa(at) + ": they are not right: " + strconv.Itoa(int(err))
	}
	for at, i := range f.Code {
		if i != onlyItsOwn(i) {
			return strconv.Itoa(at) + ": it has fields that its kind has not"
		}
	}
	return ""
}

// onlyItsOwn is i with nothing in fields that its kind has not.
func onlyItsOwn(i api.Instr) api.Instr {
	switch i.Op {
	case api.OpSel:
		return api.Instr{Op: i.Op, D: i.D, A: i.A, B: i.B, C: i.C}
	case api.OpConst:
		return api.Instr{Op: i.Op, D: i.D, Imm: i.Imm}
	case api.OpMove:
		return api.Instr{Op: i.Op, D: i.D, A: i.A}
	case api.OpJump:
		return api.Instr{Op: i.Op, Imm: i.Imm}
	case api.OpZero:
		return api.Instr{Op: i.Op, A: i.A, Imm: i.Imm}
	case api.OpRet:
		return api.Instr{Op: i.Op, A: i.A}
	case api.OpTrap:
		return api.Instr{Op: i.Op}
	}
	return api.Instr{Op: i.Op, D: i.D, A: i.A, B: i.B}
}

// flatRun is how right instructions end; and which were done, each with the words of the places that it reads and that are not secret.
func flatRun(f api.Flat, g api.Given) (api.Ended, []int) {
	ended, leaks := flow.Run(f, allSeen(), g)
	var seen []int
	for _, l := range leaks {
		seen = append(seen, l.At, l.Op)
		values := l.Values
		if l.Op == api.OpRet {
			values = []int{ended.Word}
		}
		for k, p := range flow.Reads(f.Code[l.At]) {
			if !f.Secret[p] {
				seen = append(seen, values[k])
			}
		}
	}
	return ended, seen
}

// allSeen is a table by which all is seen that may be.
func allSeen() api.Table {
	var t api.Table
	for op := api.OpAdd; op <= api.OpStore; op++ {
		t.Seen[op] = table.All(op)
	}
	t.Seen[api.OpLoad] = api.SeenA
	return t
}
