package legal_test

import (
	"math/rand"
	"slices"
	"testing"

	"evenpace/api"
	"evenpace/flow"
	"evenpace/legal"
	"evenpace/table"
)

// maker makes instructions, the same ones each time.
type maker struct{ *rand.Rand }

const (
	places = 7
	arrays = 2
)

func (m maker) instr(at, n int) api.Instr {
	i := api.Instr{Op: api.OpAdd + m.Intn(api.OpZero), D: m.Intn(places), A: m.Intn(places), B: m.Intn(places), C: m.Intn(places)}
	switch i.Op {
	case api.OpLoad, api.OpStore:
		i.B = m.Intn(arrays)
	case api.OpConst:
		i.Imm = []int{0, 1, 2, 3, 31, 1 << 31, api.MaxWord}[m.Intn(7)]
	case api.OpJump, api.OpZero:
		i.Imm = at + 1 + m.Intn(n-at)
	}
	return i
}

// right is n instructions, and a return or a trap, that are right.
func (m maker) right(n int) api.Flat {
	f := api.Flat{Secret: make([]bool, places), Params: m.Intn(places + 1)}
	for p := range f.Secret {
		f.Secret[p] = m.Intn(3) > 0
	}
	for range arrays {
		f.Arrays = append(f.Arrays, api.Var{Size: m.Intn(4), Secret: m.Intn(2) == 0})
	}
	end := api.Instr{Op: api.OpRet, A: m.Intn(places)}
	if m.Intn(10) == 0 {
		end = api.Instr{Op: api.OpTrap}
	}
	for at := range n {
		for {
			g := api.Flat{Code: slices.Repeat([]api.Instr{{Op: api.OpTrap}}, n+1), Secret: f.Secret, Arrays: f.Arrays}
			g.Code[at] = m.instr(at, n)
			if err, _ := flow.Check(g); err == api.OK {
				f.Code = append(f.Code, g.Code[at])
				break
			}
		}
	}
	f.Code = append(f.Code, end)
	return f
}

// table has something seen of one op in so many; and, if it is even, nothing of what all else can be done by.
func (m maker) table(of int, even bool) api.Table {
	var t api.Table
	for op := api.OpAdd; op <= api.OpStore; op++ {
		if m.Intn(of) == 0 {
			t.Seen[op] = m.Intn(8) & table.All(op)
		}
		if even {
			t.Seen[op] &= mostSeen().Seen[op]
		}
	}
	t.Seen[api.OpLoad] &= api.SeenA
	return t
}

func (m maker) words(n int) []int {
	l := make([]int, n)
	for k := range l {
		l[k] = m.Intn(4)
		if m.Intn(2) == 0 {
			l[k] = int(m.Uint32())
		}
	}
	return l
}

func (m maker) given(f api.Flat) api.Given {
	g := api.Given{Words: m.words(f.Params)}
	for _, v := range f.Arrays {
		g.Arrays = append(g.Arrays, m.words(v.Size))
	}
	return g
}

// otherSecrets is g, but for what is secret.
func (m maker) otherSecrets(f api.Flat, g api.Given) api.Given {
	h := m.given(f)
	for p := range g.Words {
		if !f.Secret[p] {
			h.Words[p] = g.Words[p]
		}
	}
	for b, v := range f.Arrays {
		if !v.Secret {
			h.Arrays[b] = g.Arrays[b]
		}
	}
	return h
}

// wantPromised has the answer be one that chapter 8 lets it be.
func wantPromised(t *testing.T, f api.Flat, tab api.Table, y api.Flat, err api.Errno) {
	t.Helper()
	l := shown(f, tab)
	stuck := slices.ContainsFunc(l, func(i api.Instr) bool { return hasNoWay(i.Op) })
	switch {
	case len(l) == 0:
		if err != api.OK || !sameFlat(y, f) {
			t.Fatalf("Legal of %v, by %v, which shows nothing, is %v, %d", f, tab, y, err)
		}
	case len(f.Code)+1000*len(l) > api.MaxCode:
		if err != api.OK && err != api.ErrTable && err != api.ErrMuch {
			t.Fatalf("Legal of %v, by %v, is %d", f, tab, err)
		}
	case stuck:
		if err != api.ErrTable {
			t.Fatalf("Legal of %v, by %v, is %d, not ErrTable", f, tab, err)
		}
	case mayAll(tab) && err != api.OK, err != api.OK && err != api.ErrTable:
		t.Fatalf("Legal of %v, by %v, is %d", f, tab, err)
	}
	if err != api.OK && !sameFlat(y, api.Flat{}) {
		t.Fatalf("beside %d there is %v", err, y)
	}
}

// Nothing secret is seen; done otherwise it is the same; when there is a way.
func TestLegalAtRandom(t *testing.T) {
	m := maker{rand.New(rand.NewSource(31))}
	counts := map[api.Errno]int{}
	otherwise, differ, values := 0, 0, 0
	for n := range 6000 {
		f, tab := m.right(1+m.Intn(12)), m.table(2+n%5, n%3 > 0)
		was := clone(f)
		y, err := legal.Legal(f, tab)
		wantPromised(t, f, tab, y, err)
		counts[err]++
		if !sameFlat(f, was) {
			t.Fatalf("Legal changes %v to %v", was, f)
		}
		if err != api.OK {
			continue
		}
		wantShape(t, f, y, tab)
		if len(y.Code) > len(f.Code) {
			otherwise++
		}
		for range 3 {
			g := m.given(f)
			h := m.otherSecrets(f, g)
			wantSame(t, f, y, tab, g)
			one, seen := flow.Run(y, tab, g)
			two, now := flow.Run(y, tab, h)
			if !sameLeaks(seen, now) || one.Trap != two.Trap {
				t.Fatalf("Legal of %v, by %v, shows a secret, of %v and %v", f, tab, g, h)
			}
			if one.Word != two.Word {
				differ++
			}
			for _, l := range seen {
				values += len(l.Values)
			}
		}
	}
	if counts[api.OK] < 2000 || counts[api.ErrTable] < 500 || otherwise < 1000 || differ < 1000 || values < 10000 {
		t.Errorf("only %d are done, %d not, %d otherwise; %d differ, and %d words are seen", counts[api.OK], counts[api.ErrTable], otherwise, differ, values)
	}
}

// Each op, of words at random, and not at edges alone.
func TestOpsOfWordsAtRandom(t *testing.T) {
	m := maker{rand.New(rand.NewSource(32))}
	for op := api.OpShl; op <= api.OpSel; op++ {
		y := legalOf(t, one(api.Instr{Op: op, D: 3, A: 0, B: 1, C: 2}, true, true, true, true), mostSeen())
		for n := range 2000 {
			w := []int{int(m.Uint32()) >> (n % 32), int(m.Uint32()) >> (n / 32 % 32), int(m.Uint32())}
			got, _ := flow.Run(y, mostSeen(), api.Given{Words: w})
			if want := made(op, w[0], w[1], w[2]); got.Word != want {
				t.Fatalf("op %d of %v, done otherwise, makes %d, not %d", op, w, got.Word, want)
			}
		}
	}
}
