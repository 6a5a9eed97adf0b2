package mach_test

import (
	"reflect"
	"slices"
	"testing"

	"evenpace/api"
	"evenpace/mach"
)

// in is an instruction with all of its fields but Imm.
func in(op, d, a, b, c int) api.Instr {
	return api.Instr{Op: op, D: d, A: a, B: b, C: c}
}

// imm is an instruction that has Imm.
func imm(op, d, a, n int) api.Instr {
	return api.Instr{Op: op, D: d, A: a, Imm: n}
}

// bytesOf writes instructions, as chapter 10 has it.
func bytesOf(l ...api.Instr) []byte {
	var out []byte
	for _, i := range l {
		last := i.Imm
		if i.Op == api.OpSel {
			last = i.C
		}
		out = append(out, byte(i.Op), byte(i.D), byte(i.A), byte(i.B), byte(last>>24), byte(last>>16), byte(last>>8), byte(last))
	}
	return out
}

// image has so many arrays, and is given nothing else.
func image(arrays int, l ...api.Instr) api.Image {
	return api.Image{Bytes: bytesOf(l...), Arrays: make([]api.Var, arrays)}
}

func wantLoad(t *testing.T, m api.Image, want ...api.Instr) {
	t.Helper()
	if l, err := mach.Load(m); !slices.Equal(l, want) || err != api.OK {
		t.Errorf("Load of %v is %v, %d, not %v", m, l, err, want)
	}
}

// wantNoLoad has neither be loaded, nor run, whatever else is wrong.
func wantNoLoad(t *testing.T, m api.Image, want api.Errno) {
	t.Helper()
	if l, err := mach.Load(m); len(l) != 0 || err != want {
		t.Errorf("Load of %v is %v, %d, not %d", m, l, err, want)
	}
	for _, mode := range []int{-1, 0, 1, 2} {
		for _, most := range []int{-1, 0, 9} {
			wantRan(t, mach.Run(m, api.Table{}, api.Given{Words: make([]int, 7)}, mode, most), api.Ran{Err: want})
		}
	}
}

func TestLoad(t *testing.T) {
	l := []api.Instr{
		in(api.OpAdd, 1, 2, 3, 0), in(api.OpSame, 119, 118, 117, 0), in(api.OpSel, 1, 2, 3, 119), imm(api.OpConst, 5, 0, api.MaxWord),
		in(api.OpMove, 1, 0, 0, 0), in(api.OpLoad, 4, 5, 1, 0), in(api.OpStore, 119, 119, 0, 0), imm(api.OpJump, 0, 0, 1<<31),
		imm(api.OpZero, 0, 7, 3), in(api.OpRet, 0, 119, 0, 0), in(api.OpTrap, 0, 0, 0, 0), in(api.OpOn, 119, 0, 0, 0), in(api.OpBack, 0, 119, 0, 0),
	}
	wantLoad(t, image(2, l...), l...)
	for _, i := range l {
		wantLoad(t, image(2, i), i)
	}
}

func TestLoadOfWhatIsNoInstructions(t *testing.T) {
	wantNoLoad(t, api.Image{}, api.ErrForm)
	wantNoLoad(t, api.Image{Bytes: []byte{}, Params: 3, Arrays: make([]api.Var, 2)}, api.ErrForm)
	right := bytesOf(slices.Repeat([]api.Instr{in(api.OpTrap, 0, 0, 0, 0)}, 4)...)
	for n := range len(right) {
		if n%8 != 0 {
			wantNoLoad(t, api.Image{Bytes: right[:n]}, api.ErrForm)
			// How many bytes there are is asked ahead of what they are.
			wantNoLoad(t, api.Image{Bytes: make([]byte, n)}, api.ErrForm)
			wantNoLoad(t, api.Image{Bytes: slices.Repeat([]byte{255}, n)}, api.ErrForm)
		}
	}
}

// There are ops from OpAdd to OpBack, and no others.
func TestLoadOfNoOp(t *testing.T) {
	for op := range 256 {
		m := image(1, in(op, 1, 2, 0, 0))
		if op >= api.OpAdd && op <= api.OpBack {
			wantLoad(t, m, in(op, 1, 2, 0, 0))
			continue
		}
		wantNoLoad(t, m, api.ErrKind)
		wantNoLoad(t, image(1, in(op, 255, 255, 255, 255)), api.ErrKind)
	}
	wantNoLoad(t, api.Image{Bytes: []byte{api.OpSel, 1, 2, 3, 0, 0, 1, 0}}, api.ErrRange)
	wantNoLoad(t, api.Image{Bytes: []byte{api.OpSel, 1, 2, 3, 1, 0, 0, 4}}, api.ErrRange)
}

// slotFields tells which of A, B, C of an op are slots.
func slotFields(op int) (a, b, c bool) {
	switch op {
	case api.OpConst, api.OpJump, api.OpTrap, api.OpOn:
		return false, false, false
	case api.OpMove, api.OpLoad, api.OpStore, api.OpZero, api.OpRet, api.OpBack:
		return true, false, false
	case api.OpSel:
		return true, true, true
	}
	return true, true, false
}

func TestLoadOfWhatIsNoSlot(t *testing.T) {
	// There are arrays for whatever B is.
	wantIf := func(ok bool, i api.Instr) {
		t.Helper()
		if ok {
			wantLoad(t, image(256, i), i)
		} else {
			wantNoLoad(t, image(256, i), api.ErrRange)
		}
	}
	for op := api.OpAdd; op <= api.OpBack; op++ {
		a, b, c := slotFields(op)
		for _, n := range []int{119, 120, 121, 254, 255} {
			is := n < api.MaxSlots
			// D must be a slot, even of what has none.
			wantIf(is, in(op, n, 0, 0, 0))
			wantIf(is || !a, in(op, 0, n, 0, 0))
			wantIf(is || !b, in(op, 0, 0, n, 0))
			if op == api.OpSel {
				wantIf(is || !c, in(op, 0, 0, 0, n))
			} else {
				wantIf(true, imm(op, 0, 0, n))
			}
		}
	}
}

func TestLoadOfNoArray(t *testing.T) {
	for _, op := range []int{api.OpLoad, api.OpStore} {
		for _, many := range []int{0, 1, 2, 3, 130, 255} {
			wantNoLoad(t, image(many, in(op, 0, 0, many, 0)), api.ErrRange)
			wantNoLoad(t, image(many, in(op, 0, 0, 255, 0)), api.ErrRange)
			if many > 0 {
				wantLoad(t, image(many, in(op, 0, 0, many-1, 0)), in(op, 0, 0, many-1, 0))
			}
		}
	}
	// Of others B tells of no array.
	wantLoad(t, image(0, in(api.OpMove, 0, 0, 9, 0), in(api.OpAdd, 0, 0, 9, 0)), in(api.OpMove, 0, 0, 9, 0), in(api.OpAdd, 0, 0, 9, 0))
}

// The first instruction that is wrong counts, even one that is never done.
func TestLoadTellsTheFirstFault(t *testing.T) {
	ok, kind, far, array := in(api.OpTrap, 0, 0, 0, 0), in(77, 0, 0, 0, 0), in(api.OpMove, 120, 0, 0, 0), in(api.OpLoad, 0, 0, 3, 0)
	wantNoLoad(t, image(1, ok, kind), api.ErrKind)
	wantNoLoad(t, image(1, ok, far), api.ErrRange)
	wantNoLoad(t, image(1, ok, array), api.ErrRange)
	wantNoLoad(t, image(1, kind, far), api.ErrKind)
	wantNoLoad(t, image(1, far, kind), api.ErrRange)
	wantNoLoad(t, image(1, array, kind), api.ErrRange)
	wantNoLoad(t, image(1, slices.Concat(slices.Repeat([]api.Instr{ok}, 500), []api.Instr{kind, far})...), api.ErrKind)
	m := image(1, kind, far)
	m.Bytes = m.Bytes[:15]
	wantNoLoad(t, m, api.ErrForm)
}

// How many words it is given, and what arrays are like, Load does not ask.
func TestLoadAsksNoMore(t *testing.T) {
	i := in(api.OpTrap, 0, 0, 0, 0)
	for _, n := range []int{-1 << 63, -1, 0, 119, 120, 1<<63 - 1} {
		wantLoad(t, api.Image{Bytes: bytesOf(i), Params: n}, i)
		wantLoad(t, api.Image{Bytes: bytesOf(i), Arrays: []api.Var{{Size: n, Name: "?"}}}, i)
	}
}

func TestLoadOnlyReads(t *testing.T) {
	b := append(bytesOf(in(api.OpSel, 1, 2, 3, 4), in(api.OpTrap, 0, 0, 0, 0)), 255, 254, 253)
	was := slices.Clone(b)
	m := api.Image{Bytes: b[:16]}
	one, _ := mach.Load(m)
	two, _ := mach.Load(m)
	if !slices.Equal(b, was) {
		t.Fatalf("bytes are %v then", b)
	}
	clear(b)
	clear(one[:cap(one)])
	if want := []api.Instr{in(api.OpSel, 1, 2, 3, 4), in(api.OpTrap, 0, 0, 0, 0)}; !reflect.DeepEqual(two, want) {
		t.Errorf("an answer hangs on another one, or on what was handed in: %v", two)
	}
}
