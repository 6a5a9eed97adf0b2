package flow_test

import (
	"math/rand"
	"slices"
	"testing"

	"evenpace/api"
	"evenpace/flow"
	"evenpace/table"
	"evenpace/word"
)

// maker makes instructions, the same ones each time.
type maker struct{ *rand.Rand }

const (
	places = 8
	arrays = 3
)

// shape has places and arrays, and no instructions yet.
func (m maker) shape() api.Flat {
	f := api.Flat{Secret: make([]bool, places), Params: m.Intn(places + 1)}
	for p := range f.Secret {
		f.Secret[p] = m.Intn(2) == 0
	}
	for range arrays {
		f.Arrays = append(f.Arrays, api.Var{Size: m.Intn(4), Secret: m.Intn(2) == 0})
	}
	return f
}

// instr is often wrong by a little.
func (m maker) instr(n int) api.Instr {
	place := func() int { return m.Intn(places+2) - 1 }
	i := api.Instr{Op: m.Intn(api.OpTrap + 2), D: place(), A: place(), B: place(), C: place(), Imm: m.Intn(n + 1)}
	if i.Op == api.OpLoad || i.Op == api.OpStore {
		i.B = m.Intn(arrays+2) - 1
	}
	if i.Op == api.OpConst {
		i.Imm = []int{0, 1, 2, 3, api.MaxWord, -1, api.MaxWord + 1}[m.Intn(7)]
	}
	return i
}

// right is n instructions that are right, and end.
func (m maker) right(n int) api.Flat {
	f := m.shape()
	f.Code = make([]api.Instr, n)
	for at := range n {
		f.Code[at] = m.instr(n)
		for plainInstr(f, at) != api.OK || at == n-1 && f.Code[at].Op < api.OpRet || at < n-1 && f.Code[at].Op >= api.OpRet && m.Intn(8) > 0 {
			f.Code[at] = m.instr(n)
		}
	}
	return f
}

func (m maker) word() int {
	if m.Intn(2) == 0 {
		return m.Intn(4)
	}
	return int(m.Uint32())
}

func (m maker) words(n int) []int {
	l := make([]int, n)
	for k := range l {
		l[k] = m.word()
	}
	return l
}

func (m maker) given(f api.Flat) api.Given {
	g := api.Given{Words: m.words(f.Params)}
	for _, v := range f.Arrays {
		g.Arrays = append(g.Arrays, m.words(v.Size))
	}
	return g
}

// otherSecrets is g, but for what is secret.
func (m maker) otherSecrets(f api.Flat, g api.Given) api.Given {
	h := m.given(f)
	for p := range g.Words {
		if !f.Secret[p] {
			h.Words[p] = g.Words[p]
		}
	}
	for b, v := range f.Arrays {
		if !v.Secret {
			h.Arrays[b] = g.Arrays[b]
		}
	}
	return h
}

// table has something seen of one op in so many.
func (m maker) table(of int) api.Table {
	var t api.Table
	for op := api.OpAdd; op <= api.OpStore; op++ {
		if m.Intn(of) == 0 {
			t.Seen[op] = m.Intn(8) & table.All(op)
		}
	}
	t.Seen[api.OpLoad] &= api.SeenA
	return t
}

func TestCheckIsAsItReads(t *testing.T) {
	m := maker{rand.New(rand.NewSource(21))}
	counts := map[api.Errno]int{}
	for range 60000 {
		f := m.right(1 + m.Intn(4))
		for range m.Intn(3) {
			at := m.Intn(len(f.Code))
			f.Code[at] = m.instr(len(f.Code))
		}
		if m.Intn(20) == 0 {
			f.Params = m.Intn(places+4) - 2
		}
		want, where := plainCheck(f)
		wantCheck(t, f, want, where)
		counts[want]++
	}
	for _, err := range []api.Errno{api.OK, api.ErrKind, api.ErrRange, api.ErrMuch, api.ErrLabel, api.ErrEnd} {
		if counts[err] < 200 {
			t.Errorf("only %d are %d", counts[err], err)
		}
	}
}

func TestRunIsAsItReads(t *testing.T) {
	m := maker{rand.New(rand.NewSource(22))}
	traps, words, changed, values := 0, 0, 0, 0
	for range 20000 {
		f, tab := m.right(1+m.Intn(30)), m.table(2)
		g := m.given(f)
		want, seen := plainRun(f, tab, g)
		got, leaks := flow.Run(f, tab, g)
		if !sameEnd(got, want) || !sameLeaks(leaks, seen) {
			t.Fatalf("Run of %v, by %v, of %v, is %v, %v, not %v, %v", f, tab, g, got, leaks, want, seen)
		}
		if got.Trap {
			traps++
		}
		if got.Word != 0 {
			words++
		}
		if !slices.EqualFunc(got.Arrays, g.Arrays, slices.Equal) {
			changed++
		}
		for _, l := range leaks {
			values += len(l.Values)
		}
		if slices.ContainsFunc(slices.Concat(append(got.Arrays, []int{got.Word})...), func(n int) bool { return !word.Is(n) }) {
			t.Fatalf("Run of %v, of %v, ends with what is no word: %v", f, g, got)
		}
	}
	if traps < 1000 || words < 1000 || changed < 1000 || values < 10000 {
		t.Errorf("only %d trap, %d end with a word, %d store, and %d words are seen", traps, words, changed, values)
	}
}

// What shows nothing is even: where no word of a secret place is seen, two runs that differ in secrets alone are seen the same, and leave the same behind in what is public.
func TestWhatShowsNothingIsEven(t *testing.T) {
	m := maker{rand.New(rand.NewSource(23))}
	even, other, values := 0, 0, 0
	for even < 8000 {
		f, tab := m.right(1+m.Intn(20)), m.table(6)
		shows := func(i api.Instr) bool {
			seen := 0
			if i.Op <= api.OpStore {
				seen = tab.Seen[i.Op]
			}
			return slices.ContainsFunc(plainSeen(seen, i), func(p int) bool { return f.Secret[p] })
		}
		if slices.ContainsFunc(f.Code, shows) {
			continue
		}
		even++
		g := m.given(f)
		h := m.otherSecrets(f, g)
		one, seen := flow.Run(f, tab, g)
		two, now := flow.Run(f, tab, h)
		if !sameLeaks(seen, now) || one.Trap != two.Trap {
			t.Fatalf("%v, by %v, shows a secret, of %v and %v: %v and %v", f, tab, g, h, seen, now)
		}
		for b, v := range f.Arrays {
			if !v.Secret && !slices.Equal(one.Arrays[b], two.Arrays[b]) {
				t.Fatalf("%v, of %v and %v, leaves %v and %v", f, g, h, one, two)
			}
		}
		if one.Word != two.Word {
			other++
		}
		for _, l := range seen {
			values += len(l.Values)
		}
	}
	if other < 500 || values < 2000 {
		t.Errorf("only %d differ in what comes of them, and %d words are seen", other, values)
	}
}
