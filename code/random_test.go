package code_test

import (
	"bytes"
	"math/rand"
	"slices"
	"testing"

	"evenpace/api"
	"evenpace/code"
	"evenpace/flow"
	"evenpace/fold"
	"evenpace/legal"
	"evenpace/table"
)

// maker makes instructions, the same ones each time. near is how many places apart those that one instruction mentions are, mostly: then what is mentioned goes on from place to place, and slots go from one to the next.
type maker struct {
	*rand.Rand
	near int
}

const arrays = 2

// instr has fields that mean nothing be places, too.
func (m maker) instr(at, n, places int) api.Instr {
	many := min(m.near, places)
	from := at * (places - many) / n
	place := func() int {
		if m.Intn(40) == 0 {
			return m.Intn(places)
		}
		return from + m.Intn(many)
	}
	i := api.Instr{Op: api.OpAdd + m.Intn(api.OpTrap), D: place(), A: place(), B: place(), C: place()}
	if m.Intn(8) == 0 {
		i.Op = api.OpZero
	}
	switch i.Op {
	case api.OpLoad, api.OpStore:
		i.B = m.Intn(arrays)
	case api.OpConst:
		i.Imm = []int{0, 1, 2, 3, 31, 1 << 31, api.MaxWord}[m.Intn(7)]
	case api.OpJump, api.OpZero:
		i.Imm = at + 1 + m.Intn(min(n-at, 1+m.Intn(12)))
	}
	return i
}

// right is n instructions, and one behind them that ends them, that are right. Some of these end it ahead of that.
func (m maker) right(n, places int) api.Flat {
	f := api.Flat{Secret: make([]bool, places), Params: m.Intn(min(places, 4) + 1)}
	for p := range f.Secret {
		f.Secret[p] = m.Intn(2) == 0
	}
	for range arrays {
		f.Arrays = append(f.Arrays, api.Var{Size: m.Intn(4), Secret: m.Intn(2) == 0})
	}
	for at := range n {
		f.Code = append(f.Code, m.rightOne(f, at, n))
	}
	end := ret(m.Intn(places))
	if m.Intn(10) == 0 {
		end = trap()
	}
	f.Code = append(f.Code, end)
	return f
}

// rightOne is one that is right where it is. Whether it is does not hang on how far a jump leads.
func (m maker) rightOne(f api.Flat, at, n int) api.Instr {
	for {
		i := m.instr(at, n, len(f.Secret))
		if i.Op >= api.OpRet && m.Intn(n+4) > 0 {
			continue
		}
		alone := i
		if i.Op == api.OpJump || i.Op == api.OpZero {
			alone.Imm = 1
		}
		if err, _ := flow.Check(api.Flat{Code: []api.Instr{alone, trap()}, Secret: f.Secret, Arrays: f.Arrays}); err == api.OK {
			return i
		}
	}
}

func (m maker) words(n int) []int {
	l := make([]int, n)
	for k := range l {
		switch m.Intn(3) {
		case 0:
			l[k] = m.Intn(4)
		case 1:
			l[k] = int(m.Uint32())
		}
	}
	return l
}

func (m maker) given(f api.Flat) api.Given {
	g := api.Given{Words: m.words(f.Params)}
	for _, v := range f.Arrays {
		g.Arrays = append(g.Arrays, m.words(v.Size))
	}
	return g
}

// other is g with other secrets.
func (m maker) other(f api.Flat, g api.Given) api.Given {
	h := m.given(f)
	for k := range h.Words {
		if !f.Secret[k] {
			h.Words[k] = g.Words[k]
		}
	}
	for b, v := range f.Arrays {
		if !v.Secret {
			copy(h.Arrays[b], g.Arrays[b])
		}
	}
	return h
}

// table has something seen of one op in so many.
func (m maker) table(of int) api.Table {
	var t api.Table
	for op := api.OpAdd; op <= api.OpStore; op++ {
		if m.Intn(of) == 0 {
			t.Seen[op] = m.Intn(8) & table.All(op)
		}
	}
	t.Seen[api.OpLoad] &= api.SeenA
	return t
}

// shows tells whether an instruction of f shows what is secret, by t.
func shows(f api.Flat, t api.Table) bool {
	return slices.ContainsFunc(f.Code, func(i api.Instr) bool {
		return slices.ContainsFunc(plainSeenOf(t, i, 1), func(p int) bool { return f.Secret[p] })
	})
}

// sameRuns has f be made, and end as it does, of what is given at random; and, if it shows nothing secret, be even.
func (m maker) sameRuns(t *testing.T, f api.Flat, tab api.Table) {
	t.Helper()
	img := made(t, f)
	even := !shows(f, tab)
	for range 3 {
		g := m.given(f)
		seen := runs(t, img, tab, g, plainDone(f, g))
		h := m.other(f, g)
		for mode, now := range runs(t, img, tab, h, plainDone(f, h)) {
			if even && !sameLeaks(now, seen[mode]) {
				t.Fatalf("%s, by %v, in mode %d, shows a secret of %v and %v: %v, and %v", brief(f), tab, mode, g, h, seen[mode], now)
			}
		}
	}
}

func TestRightOnesAsBytes(t *testing.T) {
	m := maker{rand.New(rand.NewSource(61)), 4}
	even, noughts := 0, 0
	for range 20000 {
		f, tab := m.right(m.Intn(24), 2+m.Intn(20)), m.table(4)
		was := clone(f)
		m.sameRuns(t, f, tab)
		if !slices.Equal(f.Code, was.Code) || !slices.Equal(f.Secret, was.Secret) || !slices.Equal(f.Arrays, was.Arrays) {
			t.Fatalf("%s is changed to %s", brief(was), brief(f))
		}
		if !shows(f, tab) {
			even++
		}
		if n := len(made(t, f).Bytes) / 8; n > 2*len(f.Code)+1 {
			noughts++
		}
	}
	if even < 4000 || noughts < 1000 {
		t.Errorf("only %d show nothing, and %d have many noughts", even, noughts)
	}
}

// More than MaxSlots less 1 places at once are too many, however they come about.
func TestAsManyAsMayBeAtRandom(t *testing.T) {
	m := maker{rand.New(rand.NewSource(62)), 150}
	much, close, enough := 0, 0, 0
	for range 400 {
		f := m.right(400, 110+m.Intn(40))
		n := atOnce(f)
		if n > api.MaxSlots-1 {
			wantMuch(t, f)
			much++
		} else {
			m.sameRuns(t, f, api.Table{})
			enough++
		}
		if n >= api.MaxSlots-3 && n <= api.MaxSlots+1 {
			close++
		}
	}
	if much < 50 || enough < 50 || close < 20 {
		t.Errorf("only %d are too many, %d are not, %d nearly", much, enough, close)
	}
}

// What is done otherwise, or folded, is as it was when it is made.
func TestLegalOnesAsBytes(t *testing.T) {
	m := maker{rand.New(rand.NewSource(63)), 3}
	n := 0
	for range 3000 {
		f, tab := m.right(m.Intn(8), 2+m.Intn(8)), m.table(3)
		x, err := legal.Legal(f, tab)
		if err != api.OK {
			continue
		}
		n++
		for _, y := range []api.Flat{x, fold.Numbers(x), fold.Used(x), fold.Fold(x)} {
			if shows(y, tab) {
				t.Fatalf("%s shows what is secret", brief(y))
			}
			m.sameRuns(t, y, tab)
			if a, b := made(t, y), made(t, y); !bytes.Equal(a.Bytes, b.Bytes) {
				t.Fatalf("%s is made otherwise each time", brief(y))
			}
		}
	}
	if n < 1000 {
		t.Errorf("only %d are legal", n)
	}
}

// No call panics: whatever is handed in is made, or an error stands alone.
func TestWhateverIsHandedIn(t *testing.T) {
	m := maker{rand.New(rand.NewSource(64)), 9}
	odd := []int{-1 << 63, -2, -1, 0, 1, 2, 3, 255, 256, 1<<32 - 1, 1 << 32, 1<<63 - 1}
	pick := func() int { return odd[m.Intn(len(odd))] }
	some := func() int { return m.Intn(6) - 1 }
	for range 60000 {
		by := some
		if m.Intn(4) == 0 {
			by = pick
		}
		f := api.Flat{Secret: make([]bool, m.Intn(5)), Params: by(), Arrays: make([]api.Var, m.Intn(3))}
		for range m.Intn(6) {
			f.Code = append(f.Code, api.Instr{Op: m.Intn(25), D: by(), A: by(), B: by(), C: by(), Imm: by()})
		}
		img, err := code.Make(f)
		if err != api.OK && (img.Bytes != nil || img.Params != 0 || img.Arrays != nil) {
			t.Fatalf("beside an error Make of %s answers %v", brief(f), img)
		}
		if e, _ := flow.Check(f); e == api.OK {
			made(t, f)
		}
	}
}
