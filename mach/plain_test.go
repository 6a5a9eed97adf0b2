package mach_test

import (
	"slices"

	"evenpace/api"
	"evenpace/word"
)

// A plain reading of chapter 11, byte by byte, with no part in how the program does.

// row is eight bytes, and what they say.
type row struct {
	op, d, a, b int
	last        int
}

func rowAt(b []byte, at int) row {
	r := row{op: int(b[8*at]), d: int(b[8*at+1]), a: int(b[8*at+2]), b: int(b[8*at+3])}
	for _, n := range b[8*at+4 : 8*at+8] {
		r.last = r.last*256 + int(n)
	}
	return r
}

// takes has the slots of which the machine takes words, in the order in which they are seen.
func (r row) takes() []int {
	switch r.op {
	case api.OpConst, api.OpJump, api.OpTrap, api.OpOn:
		return nil
	case api.OpMove, api.OpLoad, api.OpZero, api.OpRet, api.OpBack:
		return []int{r.a}
	case api.OpStore:
		return []int{r.a, r.d}
	case api.OpSel:
		return []int{r.a, r.b, r.last}
	}
	return []int{r.a, r.b}
}

func plainWrong(m api.Image) api.Errno {
	if len(m.Bytes) == 0 || len(m.Bytes)%8 != 0 {
		return api.ErrForm
	}
	for at := range len(m.Bytes) / 8 {
		r := rowAt(m.Bytes, at)
		switch {
		case r.op == 0 || r.op > api.OpBack:
			return api.ErrKind
		case r.op == api.OpSel && r.last > 255:
			return api.ErrRange
		case slices.Max(append(r.takes(), r.d)) >= api.MaxSlots:
			return api.ErrRange
		case (r.op == api.OpLoad || r.op == api.OpStore) && r.b >= len(m.Arrays):
			return api.ErrRange
		}
	}
	return api.OK
}

// plainLoad has the instructions of an image that is not wrong.
func plainLoad(m api.Image) []api.Instr {
	var l []api.Instr
	for at := range len(m.Bytes) / 8 {
		r := rowAt(m.Bytes, at)
		i := api.Instr{Op: r.op, D: r.d, A: r.a, B: r.b, Imm: r.last}
		if r.op == api.OpSel {
			i.C, i.Imm = r.last, 0
		}
		l = append(l, i)
	}
	return l
}

// plainRun does an image, over slots and arrays that are maps.
func plainRun(m api.Image, t api.Table, g api.Given, mode, most int) api.Ran {
	if err := plainWrong(m); err != api.OK {
		return api.Ran{Err: err}
	}
	if mode != 0 && mode != 1 || len(g.Words) != m.Params || m.Params > 119 || len(g.Arrays) != len(m.Arrays) {
		return api.Ran{Err: api.ErrMany}
	}
	slots := map[int]int{}
	for k, n := range g.Words {
		slots[k+1] = n
	}
	arrays := map[[2]int]int{}
	for b, l := range g.Arrays {
		for k, n := range l {
			arrays[[2]int{b, k}] = n
		}
	}
	var leaks []api.Leak
	for at := 0; len(leaks) < most; {
		if at >= len(m.Bytes)/8 {
			return api.Ran{Err: api.ErrEnd}
		}
		r := rowAt(m.Bytes, at)
		leaks = append(leaks, api.Leak{At: at, Op: r.op, Values: r.shown(t, slots, mode)})
		if r.op == api.OpRet || r.op == api.OpTrap {
			return api.Ran{Ended: plainEnd(r, slots, arrays, g), Steps: len(leaks), Mode: mode, Leaks: leaks}
		}
		at, mode = r.do(at, mode, slots, arrays)
	}
	return api.Ran{Err: api.ErrFuel}
}

// shown has the words that are seen: bit by bit of what the table tells.
func (r row) shown(t api.Table, slots map[int]int, mode int) []int {
	var out []int
	for k, slot := range r.takes() {
		is := r.op == api.OpZero
		if r.op <= api.OpStore {
			is = mode == 0 || t.Seen[r.op]>>k%2 == 1
		}
		if is {
			out = append(out, slots[slot])
		}
	}
	return out
}

func (r row) do(at, mode int, slots map[int]int, arrays map[[2]int]int) (int, int) {
	spot := [2]int{r.b, slots[r.a]}
	_, there := arrays[spot]
	switch {
	case r.op == api.OpBack:
		return at + 1, slots[r.a] % 2
	case r.op == api.OpOn:
		slots[r.d] = mode
		return at + 1, 1
	case r.op == api.OpJump, r.op == api.OpZero && slots[r.a] == 0:
		return r.last, mode
	case r.op == api.OpStore && there:
		arrays[spot] = slots[r.d]
	case r.op == api.OpLoad:
		slots[r.d] = arrays[spot]
	case r.op == api.OpMove:
		slots[r.d] = slots[r.a]
	case r.op == api.OpSel && slots[r.a] == 0:
		slots[r.d] = slots[r.last]
	case r.op == api.OpSel:
		slots[r.d] = slots[r.b]
	case r.op == api.OpConst:
		slots[r.d] = r.last
	case r.op <= api.OpSame:
		slots[r.d], _ = word.Two(r.op, slots[r.a], slots[r.b])
	}
	return at + 1, mode
}

func plainEnd(r row, slots map[int]int, arrays map[[2]int]int, g api.Given) api.Ended {
	end := api.Ended{Trap: r.op == api.OpTrap}
	if !end.Trap {
		end.Word = slots[r.a]
	}
	for b, l := range g.Arrays {
		words := make([]int, len(l))
		for k := range l {
			words[k] = arrays[[2]int{b, k}]
		}
		end.Arrays = append(end.Arrays, words)
	}
	return end
}
