package mach_test

import (
	"math/rand"
	"slices"
	"testing"

	"evenpace/api"
	"evenpace/mach"
	"evenpace/table"
)

// maker makes images, the same ones each time.
type maker struct{ *rand.Rand }

const arrays = 2

// instr mentions few slots, and leads on or back; now and then it is wrong.
func (m maker) instr(n int) api.Instr {
	slot := func() int {
		if m.Intn(400) == 0 {
			return 117 + m.Intn(6)
		}
		return m.Intn(6)
	}
	i := api.Instr{Op: api.OpAdd + m.Intn(api.OpBack), D: slot(), A: slot(), B: slot()}
	if m.Intn(6) == 0 {
		i.Op = api.OpZero
	}
	switch i.Op {
	case api.OpSel:
		i.C = slot()
	case api.OpLoad, api.OpStore:
		i.B = m.Intn(arrays)
	case api.OpJump, api.OpZero:
		i.Imm = m.Intn(n + 1)
	default:
		i.Imm = []int{0, 1, 2, 3, 1 << 31, api.MaxWord}[m.Intn(6)]
	}
	if m.Intn(600) == 0 {
		i.Op = api.OpBack + m.Intn(2)
	}
	return i
}

// code is instructions of which few end it, and the last one mostly does.
func (m maker) code(n int, but ...int) []api.Instr {
	var l []api.Instr
	for len(l) < n {
		i := m.instr(n)
		rare := i.Op == api.OpRet || i.Op == api.OpTrap || i.Op == api.OpJump
		if rare && m.Intn(6) > 0 || slices.Contains(but, i.Op) {
			continue
		}
		l = append(l, i)
	}
	if m.Intn(10) > 0 {
		l[n-1] = ret(m.Intn(6))
	}
	return l
}

func (m maker) image(l []api.Instr) api.Image {
	return api.Image{Bytes: bytesOf(l...), Params: m.Intn(5), Arrays: make([]api.Var, arrays)}
}

func (m maker) words(n int) []int {
	l := make([]int, n)
	for k := range l {
		switch m.Intn(3) {
		case 0:
			l[k] = m.Intn(4)
		case 1:
			l[k] = int(m.Uint32())
		}
	}
	return l
}

func (m maker) given(img api.Image) api.Given {
	g := api.Given{Words: m.words(img.Params)}
	for range img.Arrays {
		g.Arrays = append(g.Arrays, m.words(m.Intn(4)))
	}
	return g
}

func (m maker) table() api.Table {
	var t api.Table
	for op := api.OpAdd; op <= api.OpStore; op++ {
		t.Seen[op] = m.Intn(8) & table.All(op)
	}
	t.Seen[api.OpLoad] &= api.SeenA
	return t
}

// Images are loaded, and run, as chapter 11 reads.
func TestImagesRunAsItReads(t *testing.T) {
	m := maker{rand.New(rand.NewSource(71))}
	counts := map[api.Errno]int{}
	traps, values, back, on := 0, 0, 0, 0
	for range 40000 {
		img, tab := m.image(m.code(1+m.Intn(16))), m.table()
		g, mode, most := m.given(img), m.Intn(2), m.Intn(120)
		if m.Intn(50) == 0 {
			mode, g.Words = m.Intn(4)-1, g.Words[:m.Intn(len(g.Words)+1)]
		}
		if m.Intn(50) == 0 {
			img.Bytes = img.Bytes[:m.Intn(len(img.Bytes)+1)]
		}
		wrong := plainWrong(img)
		if l, err := mach.Load(img); err != wrong || err == api.OK && !slices.Equal(l, plainLoad(img)) || err != api.OK && len(l) > 0 {
			t.Fatalf("Load of %v is %v, %d, not %d", img, l, err, wrong)
		}
		got, want := mach.Run(img, tab, g, mode, most), plainRun(img, tab, g, mode, most)
		if !sameRan(got, want) {
			t.Fatalf("Run of %v, by %v, of %v, in mode %d, with %d steps, is %v, not %v", img, tab, g, mode, most, got, want)
		}
		counts[got.Err]++
		if got.Ended.Trap {
			traps++
		}
		if !slices.IsSortedFunc(got.Leaks, func(a, b api.Leak) int { return a.At - b.At }) {
			back++
		}
		for _, l := range got.Leaks {
			values += len(l.Values)
			if l.Op == api.OpOn {
				on++
			}
		}
	}
	for _, err := range []api.Errno{api.OK, api.ErrForm, api.ErrKind, api.ErrRange, api.ErrMany, api.ErrEnd, api.ErrFuel} {
		if counts[err] < 200 {
			t.Errorf("only %d are %d", counts[err], err)
		}
	}
	if traps < 500 || values < 50000 || back < 200 || on < 2000 {
		t.Errorf("only %d trap, %d words are seen, %d lead back, %d are on", traps, values, back, on)
	}
}

// More is no less: as soon as the steps are enough, more of them change nothing; fewer are too few.
func TestMoreIsNoLess(t *testing.T) {
	m := maker{rand.New(rand.NewSource(72))}
	n := 0
	for range 4000 {
		img, tab, mode := m.image(m.code(1+m.Intn(12))), m.table(), m.Intn(2)
		g := m.given(img)
		r := mach.Run(img, tab, g, mode, 300)
		if r.Err != api.OK {
			continue
		}
		n++
		for _, most := range []int{r.Steps, r.Steps + 1, 1 << 40} {
			wantRan(t, mach.Run(img, tab, g, mode, most), r)
		}
		for _, most := range []int{-1, 0, r.Steps / 2, r.Steps - 1} {
			wantRan(t, mach.Run(img, tab, g, mode, most), api.Ran{Err: api.ErrFuel})
		}
	}
	if n < 2000 {
		t.Errorf("only %d end", n)
	}
}

// within tells whether l has what part has, in its order.
func within(part, l []int) bool {
	for _, n := range l {
		if len(part) > 0 && part[0] == n {
			part = part[1:]
		}
	}
	return len(part) == 0
}

// On, less is seen: what has no part in the mode is done the same way in both, and on by the table alone.
func TestOnLessIsSeen(t *testing.T) {
	m := maker{rand.New(rand.NewSource(73))}
	ended, less, same := 0, 0, 0
	for range 4000 {
		img, tab := m.image(m.code(1+m.Intn(12), api.OpOn, api.OpBack)), m.table()
		g := m.given(img)
		off, other, on := mach.Run(img, tab, g, 0, 300), mach.Run(img, api.Table{}, g, 0, 300), mach.Run(img, tab, g, 1, 300)
		if off.Err != on.Err || !sameEnd(off.Ended, on.Ended) || off.Steps != on.Steps {
			t.Fatalf("%v, of %v, ends %v, or %v", img, g, off, on)
		}
		if off.Err != api.OK {
			continue
		}
		ended++
		if off.Mode != 0 || on.Mode != 1 {
			t.Fatalf("%v ends in the modes %d and %d", img, off.Mode, on.Mode)
		}
		if !sameRan(off, other) {
			t.Fatalf("off, %v hangs on the table %v", img, tab)
		}
		for k, l := range on.Leaks {
			all := off.Leaks[k]
			if l.At != all.At || l.Op != all.Op || !within(l.Values, all.Values) {
				t.Fatalf("%v, of %v, is seen %v, but %v with all", img, g, l, all)
			}
			less += len(all.Values) - len(l.Values)
			same += len(l.Values)
		}
	}
	if ended < 2000 || less < 5000 || same < 5000 {
		t.Errorf("only %d end, of which %d words are not seen, and %d are", ended, less, same)
	}
}

// No call panics: of whatever bytes there are, beside an error all else is nothing.
func TestWhateverBytes(t *testing.T) {
	m := maker{rand.New(rand.NewSource(74))}
	odd := []int{-1 << 63, -1, 0, 1, 2, 1 << 32, 1<<63 - 1}
	for range 60000 {
		b := make([]byte, m.Intn(5)*8)
		m.Read(b)
		for k := range b {
			switch {
			case k%8 == 0:
				b[k] %= api.OpBack + 2
			case k%8 < 4 || m.Intn(3) > 0:
				b[k] %= 3
			}
			if k%8 > 3 && k%8 < 7 && m.Intn(20) > 0 {
				b[k] = 0
			}
		}
		img := api.Image{Bytes: b, Params: m.Intn(3), Arrays: make([]api.Var, m.Intn(3))}
		g := m.given(img)
		if m.Intn(3) == 0 {
			for k := range g.Words {
				g.Words[k] = odd[m.Intn(len(odd))]
			}
		}
		if m.Intn(20) == 0 {
			img.Params = odd[m.Intn(len(odd))]
		}
		r := mach.Run(img, m.table(), g, m.Intn(2), 40)
		if r.Err != api.OK && !sameRan(r, api.Ran{Err: r.Err}) {
			t.Fatalf("beside an error Run of %v is %v", img, r)
		}
		if r.Err == api.OK && r.Steps != len(r.Leaks) {
			t.Fatalf("Run of %v has %d steps, and %d leaks", img, r.Steps, len(r.Leaks))
		}
	}
}
