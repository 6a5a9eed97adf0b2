package fold_test

import (
	"math/rand"
	"slices"
	"testing"

	"evenpace/api"
	"evenpace/flow"
	"evenpace/fold"
	"evenpace/legal"
	"evenpace/table"
)

// maker makes instructions, the same ones each time.
type maker struct{ *rand.Rand }

const (
	places = 6
	arrays = 2
)

// instr has numbers often, so that much is known, and leads on not too often.
func (m maker) instr(at, n int) api.Instr {
	i := api.Instr{Op: api.OpAdd + m.Intn(api.OpTrap), D: m.Intn(places), A: m.Intn(places), B: m.Intn(places), C: m.Intn(places)}
	if m.Intn(3) == 0 {
		i.Op = api.OpConst
	}
	switch i.Op {
	case api.OpLoad, api.OpStore:
		i.B = m.Intn(arrays)
	case api.OpConst:
		i.Imm = []int{0, 1, 2, 3, 31, 1 << 31, api.MaxWord}[m.Intn(7)]
	case api.OpJump, api.OpZero:
		i.Imm = at + 1 + m.Intn(n-at)
	}
	return i
}

// right is n instructions, and one behind them that ends them, that are right. Some of these end it ahead of that.
func (m maker) right(n int) api.Flat {
	f := api.Flat{Secret: make([]bool, places), Params: m.Intn(places + 1)}
	for p := range f.Secret {
		f.Secret[p] = m.Intn(2) == 0
	}
	for range arrays {
		f.Arrays = append(f.Arrays, api.Var{Size: m.Intn(4), Secret: m.Intn(2) == 0})
	}
	for at := range n {
		for {
			g := api.Flat{Code: slices.Repeat([]api.Instr{{Op: api.OpTrap}}, n+1), Secret: f.Secret, Arrays: f.Arrays}
			g.Code[at] = m.instr(at, n)
			if g.Code[at].Op >= api.OpRet && m.Intn(4) > 0 {
				continue
			}
			if err, _ := flow.Check(g); err == api.OK {
				f.Code = append(f.Code, g.Code[at])
				break
			}
		}
	}
	end := ret(m.Intn(places))
	if m.Intn(10) == 0 {
		end = trap()
	}
	f.Code = append(f.Code, end)
	return f
}

func (m maker) words(n int) []int {
	l := make([]int, n)
	for k := range l {
		l[k] = m.Intn(4)
		if m.Intn(2) == 0 {
			l[k] = int(m.Uint32())
		}
	}
	return l
}

func (m maker) given(f api.Flat) api.Given {
	g := api.Given{Words: m.words(f.Params)}
	for _, v := range f.Arrays {
		g.Arrays = append(g.Arrays, m.words(v.Size))
	}
	return g
}

// table has something seen of one op in so many.
func (m maker) table(of int) api.Table {
	var t api.Table
	for op := api.OpAdd; op <= api.OpStore; op++ {
		if m.Intn(of) == 0 {
			t.Seen[op] = m.Intn(8) & table.All(op)
		}
	}
	t.Seen[api.OpLoad] &= api.SeenA
	return t
}

func TestFoldingIsAsItReads(t *testing.T) {
	m := maker{rand.New(rand.NewSource(41))}
	numbers, gone, both, moved := 0, 0, 0, 0
	for range 40000 {
		f := m.right(m.Intn(20))
		was := clone(f)
		x, u, y := fold.Numbers(f), fold.Used(f), fold.Fold(f)
		wantFlat(t, "Numbers", f, x, plainNumbers(f))
		wantFlat(t, "Used", f, u, plainUsed(f))
		wantFlat(t, "Fold", f, y, plainUsed(plainNumbers(f)))
		if !sameFlat(f, was) {
			t.Fatalf("%v is changed to %v", was, f)
		}
		if !slices.Equal(x.Code, f.Code) {
			numbers++
		}
		if len(u.Code) < len(f.Code) {
			gone++
		}
		if len(y.Code) < len(u.Code) {
			both++
		}
		if slices.ContainsFunc(u.Code, plainLeads) && len(u.Code) < len(f.Code) {
			moved++
		}
	}
	if numbers < 10000 || gone < 10000 || both < 1000 || moved < 5000 {
		t.Errorf("only of %d something is known, of %d something goes, of %d more goes then, and %d have jumps, and something that goes", numbers, gone, both, moved)
	}
}

// With less it is the same.
func TestItEndsTheSame(t *testing.T) {
	m := maker{rand.New(rand.NewSource(42))}
	less, traps, stores := 0, 0, 0
	for range 15000 {
		f := m.right(m.Intn(40))
		x, u, y := fold.Numbers(f), fold.Used(f), fold.Fold(f)
		for range 3 {
			g := m.given(f)
			want, _ := flow.Run(f, api.Table{}, g)
			for _, z := range []api.Flat{x, u, y} {
				if got, _ := flow.Run(z, api.Table{}, g); !sameEnd(got, want) {
					t.Fatalf("%v, folded to %v, of %v, ends %v, not %v", f, z, g, got, want)
				}
			}
			if want.Trap {
				traps++
			}
			if !slices.EqualFunc(want.Arrays, g.Arrays, slices.Equal) {
				stores++
			}
		}
		if len(y.Code) < len(f.Code) {
			less++
		}
	}
	if less < 10000 || traps < 1000 || stores < 1000 {
		t.Errorf("only %d are less, %d trap, %d store", less, traps, stores)
	}
}

// Nothing is made for nothing: when it has gone, nothing more goes; and when all that is known is a number, nothing more is known.
func TestFoldedAgainItStays(t *testing.T) {
	m := maker{rand.New(rand.NewSource(43))}
	for range 20000 {
		f := m.right(m.Intn(30))
		x, u, y := fold.Numbers(f), fold.Used(f), fold.Fold(f)
		wantFlat(t, "Numbers of Numbers", f, fold.Numbers(x), x)
		wantFlat(t, "Used of Used", f, fold.Used(u), u)
		wantFlat(t, "Used of Fold", f, fold.Used(y), y)
	}
}

// Nothing more is seen: a number shows nothing, and all else that is done was done, and seen, as before, in turn.
func TestNothingMoreIsSeen(t *testing.T) {
	m := maker{rand.New(rand.NewSource(44))}
	less := 0
	for range 10000 {
		f, tab := m.right(m.Intn(30)), m.table(2)
		g := m.given(f)
		_, was := flow.Run(f, tab, g)
		_, now := flow.Run(fold.Fold(f), tab, g)
		if len(now) < len(was) {
			less++
		}
		for _, l := range now {
			as := func(w api.Leak) bool { return l.Op == w.Op && slices.Equal(l.Values, w.Values) }
			if l.Op == api.OpConst {
				as = func(w api.Leak) bool { return len(l.Values) == 0 && w.Op <= api.OpMove }
			}
			at := slices.IndexFunc(was, as)
			if at < 0 {
				t.Fatalf("Fold of %v, by %v, of %v, has more seen: %v", f, tab, g, now)
			}
			was = was[at+1:]
		}
	}
	if less < 5000 {
		t.Errorf("only of %d less is done", less)
	}
}

// What shows nothing secret shows nothing secret when it is folded.
func TestWhatIsLegalStaysSo(t *testing.T) {
	m := maker{rand.New(rand.NewSource(45))}
	n := 0
	for range 4000 {
		f, tab := m.right(m.Intn(10)), m.table(3)
		x, err := legal.Legal(f, tab)
		if err != api.OK {
			continue
		}
		n++
		y := fold.Fold(x)
		if z, err := legal.Legal(y, tab); err != api.OK || !sameFlat(z, y) {
			t.Fatalf("%v, by %v, folded shows what is secret: %v", x, tab, y)
		}
		g := m.given(f)
		want, _ := flow.Run(f, tab, g)
		if got, _ := flow.Run(y, tab, g); !sameEnd(got, want) {
			t.Fatalf("%v, by %v, legal, and folded, of %v, ends %v, not %v", f, tab, g, got, want)
		}
	}
	if n < 1000 {
		t.Errorf("only %d are legal", n)
	}
}
