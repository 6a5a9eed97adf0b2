package flow_test

import (
	"strings"

	"evenpace/api"
	"evenpace/word"
)

// roles tells what the fields of an op are, as chapter 7 has it, with no part in how the program does: d is a place that is made; a, b, c and s (D, of OpStore) are places that are read, in turn; B is an array; n (Imm) is a word, and j one further on.
func roles(op int) string {
	switch op {
	case api.OpAdd, api.OpSub, api.OpAnd, api.OpOr, api.OpXor, api.OpShl, api.OpShr, api.OpMul, api.OpDiv, api.OpRem, api.OpLess, api.OpSame:
		return "abd"
	case api.OpSel:
		return "abcd"
	case api.OpConst:
		return "nd"
	case api.OpMove:
		return "ad"
	case api.OpLoad:
		return "aBd"
	case api.OpStore:
		return "asB"
	case api.OpJump:
		return "j"
	case api.OpZero:
		return "aj"
	case api.OpRet:
		return "a"
	}
	return ""
}

func field(i api.Instr, role byte) int {
	switch role {
	case 'a':
		return i.A
	case 'b', 'B':
		return i.B
	case 'c':
		return i.C
	case 'd', 's':
		return i.D
	}
	return i.Imm
}

func plainReads(i api.Instr) []int {
	var l []int
	for _, r := range []byte(roles(i.Op)) {
		if strings.IndexByte("abcs", r) >= 0 {
			l = append(l, field(i, r))
		}
	}
	return l
}

func plainMakes(i api.Instr) bool {
	return strings.Contains(roles(i.Op), "d")
}

// plainCheck is Check, read off the roles of fields.
func plainCheck(f api.Flat) (api.Errno, int) {
	n := len(f.Code)
	if n == 0 || n > 12000 || f.Params < 0 || f.Params > len(f.Secret) {
		return api.ErrMuch, -1
	}
	for at := range f.Code {
		if err := plainInstr(f, at); err != api.OK {
			return err, at
		}
	}
	switch f.Code[n-1].Op {
	case api.OpJump, api.OpRet, api.OpTrap:
		return api.OK, -1
	}
	return api.ErrEnd, n - 1
}

func plainInstr(f api.Flat, at int) api.Errno {
	i := f.Code[at]
	if i.Op < 1 || i.Op > 21 {
		return api.ErrKind
	}
	for _, r := range []byte(roles(i.Op)) {
		n := field(i, r)
		low, high := 0, len(f.Secret)-1
		switch r {
		case 'B':
			high = len(f.Arrays) - 1
		case 'n':
			high = 1<<32 - 1
		case 'j':
			low, high = at+1, len(f.Code)-1
		}
		if n < low || n > high {
			return api.ErrRange
		}
	}
	if plainSpills(f, i) {
		return api.ErrLabel
	}
	return api.OK
}

// plainSpills has what is secret come from places, or an array, and go to where it must be secret. Where it leads, and finds a place in an array, there nothing may be secret.
func plainSpills(f api.Flat, i api.Instr) bool {
	from, to := false, true
	for _, p := range plainReads(i) {
		from = from || f.Secret[p]
	}
	switch i.Op {
	case api.OpLoad:
		if from {
			return true
		}
		from = f.Arrays[i.B].Secret
		to = f.Secret[i.D]
	case api.OpStore:
		if f.Secret[i.A] {
			return true
		}
		to = f.Arrays[i.B].Secret
	case api.OpZero:
		to = false
	default:
		if plainMakes(i) {
			to = f.Secret[i.D]
		}
	}
	return from && !to
}

// plainSeen has the places whose words are seen of i, where seen is what a table tells of its op.
func plainSeen(seen int, i api.Instr) []int {
	var l []int
	switch {
	case i.Op == api.OpZero:
		return []int{i.A}
	case i.Op > api.OpStore:
		return nil
	}
	if seen&api.SeenA != 0 {
		l = append(l, i.A)
	}
	if seen&api.SeenB != 0 && i.Op == api.OpStore {
		l = append(l, i.D)
	} else if seen&api.SeenB != 0 && i.Op != api.OpLoad {
		l = append(l, i.B)
	}
	if seen&api.SeenC != 0 {
		l = append(l, i.C)
	}
	return l
}

// plainRun does right instructions as they read, over maps.
func plainRun(f api.Flat, t api.Table, g api.Given) (api.Ended, []api.Leak) {
	places := map[int]int{}
	for p, n := range g.Words {
		places[p] = n
	}
	arrays := make([]map[int]int, len(g.Arrays))
	for b, l := range g.Arrays {
		arrays[b] = map[int]int{}
		for p, n := range l {
			arrays[b][p] = n
		}
	}
	var leaks []api.Leak
	at := 0
	for f.Code[at].Op != api.OpRet && f.Code[at].Op != api.OpTrap {
		leaks = append(leaks, plainLeak(f, t, at, places))
		at = plainStep(f.Code[at], at, places, arrays)
	}
	leaks = append(leaks, plainLeak(f, t, at, places))
	ended := api.Ended{Trap: f.Code[at].Op == api.OpTrap}
	if !ended.Trap {
		ended.Word = places[f.Code[at].A]
	}
	for b, l := range g.Arrays {
		ended.Arrays = append(ended.Arrays, make([]int, len(l)))
		for p := range l {
			ended.Arrays[b][p] = arrays[b][p]
		}
	}
	return ended, leaks
}

func plainLeak(f api.Flat, t api.Table, at int, places map[int]int) api.Leak {
	i := f.Code[at]
	seen := 0
	if i.Op <= api.OpStore {
		seen = t.Seen[i.Op]
	}
	leak := api.Leak{At: at, Op: i.Op}
	for _, p := range plainSeen(seen, i) {
		leak.Values = append(leak.Values, places[p])
	}
	return leak
}

func plainStep(i api.Instr, at int, places map[int]int, arrays []map[int]int) int {
	a, b, c := places[i.A], places[i.B], places[i.C]
	switch {
	case i.Op <= api.OpSame:
		places[i.D], _ = word.Two(i.Op, a, b)
	case i.Op == api.OpSel && a != 0:
		places[i.D] = b
	case i.Op == api.OpSel:
		places[i.D] = c
	case i.Op == api.OpConst:
		places[i.D] = i.Imm
	case i.Op == api.OpMove:
		places[i.D] = a
	case i.Op == api.OpLoad:
		places[i.D] = arrays[i.B][a]
	case i.Op == api.OpStore:
		if _, there := arrays[i.B][a]; there {
			arrays[i.B][a] = places[i.D]
		}
	case i.Op == api.OpJump, i.Op == api.OpZero && a == 0:
		return i.Imm
	}
	return at + 1
}
