package legal_test

import (
	"math"
	"reflect"
	"slices"
	"testing"

	"evenpace/api"
	"evenpace/eval"
	"evenpace/flow"
	"evenpace/label"
	"evenpace/lang"
	"evenpace/legal"
	"evenpace/lower"
	"evenpace/table"
	"evenpace/word"
)

// seenPlaces has the places whose words are seen of i, as chapter 7 has it, with no part in how the program does.
func seenPlaces(t api.Table, i api.Instr) []int {
	if i.Op == api.OpZero {
		return []int{i.A}
	}
	if i.Op > api.OpStore {
		return nil
	}
	var l []int
	if t.Seen[i.Op]&1 != 0 {
		l = append(l, i.A)
	}
	if t.Seen[i.Op]&2 != 0 && i.Op == api.OpStore {
		l = append(l, i.D)
	} else if t.Seen[i.Op]&2 != 0 && i.Op != api.OpLoad {
		l = append(l, i.B)
	}
	if t.Seen[i.Op]&4 != 0 {
		l = append(l, i.C)
	}
	return l
}

func shows(f api.Flat, t api.Table, i api.Instr) bool {
	return slices.ContainsFunc(seenPlaces(t, i), func(p int) bool { return f.Secret[p] })
}

// shown has the instructions of f that show what is secret.
func shown(f api.Flat, t api.Table) []api.Instr {
	var l []api.Instr
	for _, i := range f.Code {
		if shows(f, t, i) {
			l = append(l, i)
		}
	}
	return l
}

// hasNoWay tells whether op is one of those that must be done as they are.
func hasNoWay(op int) bool {
	return op >= api.OpAdd && op <= api.OpXor || op == api.OpMove || op == api.OpStore
}

// mayAll tells whether nothing is seen, by t, of what all else can be done by.
func mayAll(t api.Table) bool {
	for op := api.OpAdd; op <= api.OpXor; op++ {
		if t.Seen[op] != 0 {
			return false
		}
	}
	return t.Seen[api.OpMove] == 0 && (t.Seen[api.OpShl]|t.Seen[api.OpShr])&api.SeenA == 0 && t.Seen[api.OpStore]&api.SeenB == 0
}

// mostSeen is a table by which all is seen, but for what all else can be done by.
func mostSeen() api.Table {
	return api.Table{Seen: [18]int{0, 0, 0, 0, 0, 0, 2, 2, 3, 3, 3, 3, 3, 7, 0, 0, 1, 1}}
}

// allSeen is a table by which all is seen that may be.
func allSeen() api.Table {
	return api.Table{Seen: [18]int{0, 3, 3, 3, 3, 3, 3, 3, 3, 3, 3, 3, 3, 7, 0, 1, 1, 3}}
}

func only(op, seen int) api.Table {
	var t api.Table
	t.Seen[op] = seen
	return t
}

func clone(f api.Flat) api.Flat {
	return api.Flat{Code: slices.Clone(f.Code), Secret: slices.Clone(f.Secret), Params: f.Params, Arrays: slices.Clone(f.Arrays)}
}

// sameFlat has nil and a list without entries the same.
func sameFlat(a, b api.Flat) bool {
	return slices.Equal(a.Code, b.Code) && slices.Equal(a.Secret, b.Secret) && a.Params == b.Params && slices.Equal(a.Arrays, b.Arrays)
}

func sameEnd(a, b api.Ended) bool {
	return a.Word == b.Word && a.Trap == b.Trap && slices.EqualFunc(a.Arrays, b.Arrays, slices.Equal)
}

func sameLeaks(a, b []api.Leak) bool {
	return slices.EqualFunc(a, b, func(x, y api.Leak) bool {
		return x.At == y.At && x.Op == y.Op && slices.Equal(x.Values, y.Values)
	})
}

// wantShape has y be right, like f, with nothing secret shown, whatever it is given.
func wantShape(t *testing.T, f, y api.Flat, tab api.Table) {
	t.Helper()
	if err, at := flow.Check(y); err != api.OK {
		t.Fatalf("Legal of %v, by %v, is not right: %d at %d of %v", f, tab, err, at, y)
	}
	if l := shown(y, tab); len(l) > 0 {
		t.Fatalf("Legal of %v, by %v, shows what is secret by %v", f, tab, l)
	}
	if y.Params != f.Params || !slices.Equal(y.Secret[:f.Params], f.Secret[:f.Params]) || !slices.Equal(y.Arrays, f.Arrays) {
		t.Fatalf("Legal of %v, by %v, is given something else: %v", f, tab, y)
	}
	makes := make([]int, len(y.Secret))
	for _, i := range y.Code {
		if flow.Makes(i) {
			makes[i.D]++
		}
	}
	if p := slices.Index(makes[len(f.Secret):], 0); p >= 0 {
		t.Fatalf("Legal of %v, by %v, has a place, %d, that nothing makes: %v", f, tab, len(f.Secret)+p, y)
	}
}

// legalOf is Legal of f, that must be, and as it must be.
func legalOf(t *testing.T, f api.Flat, tab api.Table) api.Flat {
	t.Helper()
	y, err := legal.Legal(f, tab)
	if err != api.OK {
		t.Fatalf("Legal of %v, by %v, is %d", f, tab, err)
	}
	wantShape(t, f, y, tab)
	return y
}

func wantError(t *testing.T, f api.Flat, tab api.Table, want api.Errno) {
	t.Helper()
	y, err := legal.Legal(f, tab)
	if err != want || !reflect.DeepEqual(y, api.Flat{}) {
		t.Fatalf("Legal of %.200v, by %v, is %d, not %d, with %d instructions", f, tab, err, want, len(y.Code))
	}
}

func wantSame(t *testing.T, f, y api.Flat, tab api.Table, g api.Given) {
	t.Helper()
	want, _ := flow.Run(f, tab, g)
	if got, _ := flow.Run(y, tab, g); !sameEnd(got, want) {
		t.Fatalf("Legal of %v, by %v, of %v, ends %v, not %v", f, tab, g, got, want)
	}
}

// one is an instruction over four places, the first three of which are given, and a return of D.
func one(i api.Instr, secret ...bool) api.Flat {
	return api.Flat{Code: []api.Instr{i, {Op: api.OpRet, A: i.D}}, Secret: secret, Params: 3}
}

// edges has words at which carries, signs and noughts begin.
func edges() []int {
	return []int{0, 1, 2, 3, 5, 7, 30, 31, 32, 33, 63, 255, 1 << 16, 65537, 1<<31 - 1, 1 << 31, 1<<31 + 1, 0xaaaaaaaa, 0x55555555, 0xdeadbeef, api.MaxWord - 1, api.MaxWord}
}

// made is what an op makes of three words, by chapter 1 alone.
func made(op, a, b, c int) int {
	if op == api.OpSel {
		return word.Sel(a, b, c)
	}
	n, _ := word.Two(op, a, b)
	return n
}

func TestWhatIsSeenIsDoneOtherwise(t *testing.T) {
	for op := api.OpShl; op <= api.OpSel; op++ {
		f := one(api.Instr{Op: op, D: 3, A: 0, B: 1, C: 2}, true, true, true, true)
		y := legalOf(t, f, mostSeen())
		if len(y.Code) <= 2 || len(y.Code) > 1002 {
			t.Errorf("op %d is done by %d instructions", op, len(y.Code)-1)
		}
		for _, a := range edges() {
			for _, b := range edges() {
				c := a ^ b ^ 77
				got, _ := flow.Run(y, mostSeen(), api.Given{Words: []int{a, b, c}})
				if want := made(op, a, b, c); got.Word != want || got.Trap {
					t.Fatalf("op %d of %d, %d, %d, done otherwise, makes %v, not %d", op, a, b, c, got, want)
				}
			}
		}
	}
}

func TestKnownWords(t *testing.T) {
	for _, c := range []struct{ op, a, b, c, want int }{
		{api.OpMul, 3, 5, 0, 15},
		{api.OpMul, api.MaxWord, api.MaxWord, 0, 1},
		{api.OpDiv, 17, 5, 0, 3},
		{api.OpDiv, 7, 0, 0, api.MaxWord},
		{api.OpDiv, api.MaxWord, 1<<31 + 1, 0, 1},
		{api.OpDiv, api.MaxWord, api.MaxWord, 0, 1},
		{api.OpRem, 17, 5, 0, 2},
		{api.OpRem, 7, 0, 0, 7},
		{api.OpRem, api.MaxWord, 1<<31 + 1, 0, 1<<31 - 2},
		{api.OpRem, api.MaxWord - 1, api.MaxWord, 0, api.MaxWord - 1},
		{api.OpShl, 1, 63, 0, 1 << 31},
		{api.OpShl, 3, 31, 0, 1 << 31},
		{api.OpShl, 9, 32, 0, 9},
		{api.OpShr, 1 << 31, 31, 0, 1},
		{api.OpShr, api.MaxWord, 33, 0, 1<<31 - 1},
		{api.OpLess, 1<<31 - 1, 1 << 31, 0, 1},
		{api.OpLess, api.MaxWord, 0, 0, 0},
		{api.OpLess, 0, api.MaxWord, 0, 1},
		{api.OpLess, 8, 8, 0, 0},
		{api.OpSame, 8, 8, 0, 1},
		{api.OpSame, 0, 1 << 31, 0, 0},
		{api.OpSel, 1 << 31, 4, 9, 4},
		{api.OpSel, 1, 4, 9, 4},
		{api.OpSel, 0, 4, 9, 9},
	} {
		y := legalOf(t, one(api.Instr{Op: c.op, D: 3, A: 0, B: 1, C: 2}, true, true, true, true), mostSeen())
		if got, _ := flow.Run(y, mostSeen(), api.Given{Words: []int{c.a, c.b, c.c}}); got.Word != c.want {
			t.Errorf("op %d of %d, %d, %d, done otherwise, makes %d, not %d", c.op, c.a, c.b, c.c, got.Word, c.want)
		}
	}
}

// D may be what is read, and what is read may be one place, and public, or not; whichever of it is seen.
func TestWhateverPlacesItReadsAndMakes(t *testing.T) {
	words := [][]int{{7, 3, 1}, {0, 5, 9}, {api.MaxWord, 2, 3}, {5, 0, 6}, {1 << 31, 1<<31 + 1, 0}}
	otherwise := 0
	for n := range 256 {
		i := api.Instr{D: n & 3, A: n >> 2 & 3, B: n >> 4 & 3, C: n >> 6 & 3}
		for k := range 16 {
			secret := []bool{k&1 != 0, k&2 != 0, k&4 != 0, k&8 != 0}
			for op := api.OpShl; op <= api.OpSel; op++ {
				i.Op = op
				f := one(i, secret...)
				if err, _ := flow.Check(f); err != api.OK {
					continue
				}
				seen := (n*5 + k*3 + op) & table.All(op)
				if op == api.OpShl || op == api.OpShr {
					seen &= api.SeenB
				}
				tab := only(op, seen)
				y := legalOf(t, f, tab)
				if len(shown(f, tab)) == 0 && !sameFlat(y, f) {
					t.Fatalf("Legal of %v, by %v, which shows nothing, is %v", f, tab, y)
				}
				if len(shown(f, tab)) > 0 {
					otherwise++
				}
				for _, w := range words {
					wantSame(t, f, y, tab, api.Given{Words: w})
				}
			}
		}
	}
	if otherwise < 3000 {
		t.Errorf("only %d are done otherwise", otherwise)
	}
}

// What is in places beside D is read behind it, too.
func TestPlacesBesideAreAsTheyWere(t *testing.T) {
	for op := api.OpShl; op <= api.OpSel; op++ {
		for p := range 5 {
			f := api.Flat{Code: []api.Instr{{Op: api.OpConst, D: 4, Imm: 99}, {Op: op, D: 3, A: 0, B: 1, C: 2}, {Op: api.OpRet, A: p}}, Secret: []bool{true, true, true, true, false}, Params: 3}
			y := legalOf(t, f, mostSeen())
			wantSame(t, f, y, mostSeen(), api.Given{Words: []int{50, 6, 7}})
		}
	}
}

func TestWhatMustBeDoneAsItIs(t *testing.T) {
	vars := []api.Var{{Name: "t", Secret: true, Size: 2}}
	for op := api.OpAdd; op <= api.OpStore; op++ {
		if !hasNoWay(op) {
			continue
		}
		for k := range 8 {
			f := api.Flat{Code: []api.Instr{{Op: op, D: 2, A: 0, B: 1}, {Op: api.OpRet, A: 2}}, Secret: []bool{k&1 != 0, k&2 != 0, true}, Params: 2, Arrays: vars}
			if op == api.OpStore {
				f.Secret = []bool{false, false, k&1 != 0}
				f.Code[0].B = 0
			}
			for seen := 1; seen <= 3; seen++ {
				tab := only(op, seen)
				if table.Wrong(tab) != api.OK {
					continue
				}
				if len(shown(f, tab)) > 0 {
					wantError(t, f, tab, api.ErrTable)
				} else if y := legalOf(t, f, tab); !sameFlat(y, f) {
					t.Errorf("Legal of %v, by %v, is %v", f, tab, y)
				}
			}
		}
	}
}

// One that can be done in no way is enough, wherever it is, and even if nothing leads there.
func TestOneWithoutAWayIsEnough(t *testing.T) {
	mul, xor := api.Instr{Op: api.OpMul, D: 1}, api.Instr{Op: api.OpXor, D: 1}
	ret, skip := api.Instr{Op: api.OpRet, A: 1}, api.Instr{Op: api.OpJump, Imm: 3}
	tab := only(api.OpXor, 1)
	tab.Seen[api.OpMul] = 3
	for _, code := range [][]api.Instr{{xor, mul, ret}, {mul, xor, ret}, {mul, ret, xor, ret}, {mul, skip, xor, ret}} {
		wantError(t, api.Flat{Code: code, Secret: []bool{true, true}, Params: 1}, tab, api.ErrTable)
	}
	wantError(t, one(api.Instr{Op: api.OpMul, D: 3, B: 1}, true, true, true, true), allSeen(), api.ErrTable)
}

func TestItsOwnIfNothingIsShown(t *testing.T) {
	f := some()
	if y := legalOf(t, f, api.Table{}); !sameFlat(y, f) {
		t.Errorf("Legal of %v, where nothing is seen, is %v", f, y)
	}
	public := some()
	for p := range public.Secret {
		public.Secret[p] = false
	}
	for b := range public.Arrays {
		public.Arrays[b].Secret = false
	}
	if y := legalOf(t, public, allSeen()); !sameFlat(y, public) {
		t.Errorf("Legal of %v, where all is public, is %v", public, y)
	}
	full := api.Flat{Secret: []bool{true}, Params: 1}
	for range api.MaxCode {
		full.Code = append(full.Code, api.Instr{Op: api.OpMul})
	}
	full.Code[api.MaxCode-1] = api.Instr{Op: api.OpRet}
	if y := legalOf(t, full, only(api.OpDiv, 3)); !sameFlat(y, full) {
		t.Errorf("Legal of as many as may be has %d", len(y.Code))
	}
}

// some has jumps over, onto, and out of what is done otherwise; and fields that kinds have not.
func some() api.Flat {
	return api.Flat{
		Code: []api.Instr{
			{Op: api.OpZero, A: 0, Imm: 3, C: 9},
			{Op: api.OpMul, D: 3, A: 1, B: 0, Imm: -4},
			{Op: api.OpJump, Imm: 4, A: -1},
			{Op: api.OpDiv, D: 3, A: 1, B: 1},
			{Op: api.OpSel, D: 3, A: 3, B: 1, C: 3},
			{Op: api.OpConst, D: 2, Imm: 1},
			{Op: api.OpLess, D: 4, A: 0, B: 2, C: 77},
			{Op: api.OpZero, A: 4, Imm: 11},
			{Op: api.OpLoad, D: 1, A: 2, B: 0},
			{Op: api.OpRem, D: 3, A: 3, B: 1},
			{Op: api.OpStore, D: 3, A: 2, B: 0},
			{Op: api.OpZero, A: 2, Imm: 13},
			{Op: api.OpRet, A: 3},
			{Op: api.OpTrap},
		},
		Secret: []bool{false, true, false, true, false},
		Params: 2,
		Arrays: []api.Var{{Name: "t", Secret: true, Size: 2}, {Name: "u", Size: 1}},
	}
}

func TestJumpsLeadToWhatTheyLedTo(t *testing.T) {
	f := some()
	for _, tab := range []api.Table{mostSeen(), only(api.OpMul, 1), only(api.OpDiv, 2), only(api.OpSel, 1), only(api.OpRem, 2)} {
		y := legalOf(t, f, tab)
		for _, w := range [][]int{{0, 5}, {1, 5}, {2, 9}, {0, 0}, {3, api.MaxWord}} {
			wantSame(t, f, y, tab, api.Given{Words: w, Arrays: [][]int{{10, 11}, {12}}})
		}
	}
	// An instruction that is done otherwise, led past, and led to.
	for _, a := range []int{0, 1} {
		f := api.Flat{Code: []api.Instr{{Op: api.OpZero, A: 0, Imm: 2}, {Op: api.OpSame, D: 1, A: 1, B: 1}, {Op: api.OpSame, D: 1, A: 1, B: 1}, {Op: api.OpRet, A: 1}}, Secret: []bool{false, true}, Params: 2}
		wantSame(t, f, legalOf(t, f, mostSeen()), mostSeen(), api.Given{Words: []int{a, 7}})
	}
}

// repeated is n times i, then constants, up to so many in all, and a return.
func repeated(i api.Instr, n, all int) api.Flat {
	f := api.Flat{Secret: []bool{true, true, true, true}, Params: 3}
	for range n {
		f.Code = append(f.Code, i)
	}
	for len(f.Code) < all-1 {
		f.Code = append(f.Code, api.Instr{Op: api.OpConst, D: 3})
	}
	f.Code = append(f.Code, api.Instr{Op: api.OpRet, A: 3})
	return f
}

func TestAThousandEachAreEnough(t *testing.T) {
	for op := api.OpShl; op <= api.OpSel; op++ {
		i := api.Instr{Op: op, D: 3, A: 0, B: 1, C: 2}
		for n := 1; n <= 11; n++ {
			legalOf(t, repeated(i, n, api.MaxCode-1000*n), mostSeen())
		}
	}
}

func TestTooMuch(t *testing.T) {
	for op := api.OpShl; op <= api.OpSel; op++ {
		i := api.Instr{Op: op, D: 3, A: 0, B: 1, C: 2}
		more := len(legalOf(t, repeated(i, 1, 2), mostSeen()).Code) - 2
		if y := legalOf(t, repeated(i, 1, api.MaxCode-more), mostSeen()); len(y.Code) != api.MaxCode {
			t.Errorf("op %d, and so many others that they are just not too much, are %d", op, len(y.Code))
		}
		wantError(t, repeated(i, 1, api.MaxCode-more+1), mostSeen(), api.ErrMuch)
		wantError(t, repeated(i, 1, api.MaxCode), mostSeen(), api.ErrMuch)
		wantError(t, repeated(i, api.MaxCode-1, api.MaxCode), mostSeen(), api.ErrMuch)
	}
}

// What is named first is told, even if there is too much ahead.
func TestNoWayIsToldAheadOfTooMuch(t *testing.T) {
	f := repeated(api.Instr{Op: api.OpDiv, D: 3, A: 0, B: 1}, 2000, api.MaxCode)
	wantError(t, f, mostSeen(), api.ErrMuch)
	f.Code[api.MaxCode-2] = api.Instr{Op: api.OpStore, D: 3, A: 4}
	f.Secret = append(f.Secret, false)
	f.Arrays = []api.Var{{Name: "t", Secret: true, Size: 1}}
	wantError(t, f, mostSeen(), api.ErrMuch)
	tab := mostSeen()
	tab.Seen[api.OpStore] = api.SeenB
	wantError(t, f, tab, api.ErrTable)
}

func TestWhatIsHandedInIsOnlyRead(t *testing.T) {
	f := some()
	code := append(clone(f).Code, api.Instr{Op: api.OpXor, D: 4, A: 4})
	secret := append(clone(f).Secret, true, true)
	vars := append(clone(f).Arrays, api.Var{Name: "zap"})
	in := api.Flat{Code: code[:len(f.Code)], Secret: secret[:len(f.Secret)], Params: f.Params, Arrays: vars[:len(f.Arrays)]}
	for _, tab := range []api.Table{{}, mostSeen(), only(api.OpMul, 3)} {
		want := legalOf(t, f, tab)
		y := legalOf(t, in, tab)
		if !sameFlat(y, want) {
			t.Errorf("with spare room behind it is %v, not %v", y, want)
		}
		if !sameFlat(in, some()) || code[len(f.Code)].Op != api.OpXor || !secret[len(f.Secret)] || vars[len(f.Arrays)].Name != "zap" {
			t.Fatalf("what was handed in is changed: %v", in)
		}
		clear(y.Code[:cap(y.Code)])
		clear(y.Secret[:cap(y.Secret)])
		clear(y.Arrays[:cap(y.Arrays)])
		if !sameFlat(in, some()) || code[len(f.Code)].Op != api.OpXor || !secret[len(f.Secret)] || vars[len(f.Arrays)].Name != "zap" {
			t.Fatalf("what was handed in hangs on what was answered: %v", in)
		}
		y = legalOf(t, in, tab)
		clear(code)
		clear(secret)
		clear(vars)
		if !sameFlat(y, want) {
			t.Fatalf("what was answered hangs on what was handed in: %v", y)
		}
		copy(code, append(some().Code, api.Instr{Op: api.OpXor}))
		copy(secret, append(some().Secret, true, true))
		copy(vars, append(some().Arrays, api.Var{Name: "zap"}))
	}
}

func TestItIsDoneTheSameWayEachTime(t *testing.T) {
	f := some()
	want := legalOf(t, f, mostSeen())
	for range 50 {
		legalOf(t, one(api.Instr{Op: api.OpShl, D: 3, B: 1}, true, true, true, true), mostSeen())
		if y := legalOf(t, f, mostSeen()); !sameFlat(y, want) {
			t.Fatalf("it is %v, and then %v", want, y)
		}
	}
}

func TestListsWithoutEntriesAreTheSame(t *testing.T) {
	f := api.Flat{Code: []api.Instr{{Op: api.OpTrap}}}
	g := api.Flat{Code: []api.Instr{{Op: api.OpTrap}}, Secret: []bool{}, Arrays: []api.Var{}}
	for _, tab := range []api.Table{{}, mostSeen(), allSeen()} {
		if a, b := legalOf(t, f, tab), legalOf(t, g, tab); !sameFlat(a, b) || !sameFlat(a, f) {
			t.Errorf("they are %v, and %v", a, b)
		}
	}
}

// Nothing is promised of what is not right, but that no call panics.
func TestLegalOfWhatIsNotRight(t *testing.T) {
	for _, f := range []api.Flat{
		{},
		{Code: []api.Instr{{Op: api.OpRet}}},
		{Code: []api.Instr{{Op: api.OpRet, A: -1}}, Secret: []bool{true}},
		{Code: []api.Instr{{Op: api.OpMul, D: math.MaxInt, A: math.MinInt, B: 7}, {Op: api.OpTrap}}, Secret: []bool{true}},
		{Code: []api.Instr{{Op: api.OpMul}}, Secret: []bool{true}},
		{Code: []api.Instr{{Op: api.OpMul, D: 1}, {Op: api.OpTrap}}, Secret: []bool{true, false}},
		{Code: []api.Instr{{Op: api.OpJump, Imm: 0}}},
		{Code: []api.Instr{{Op: api.OpJump, Imm: math.MaxInt}}},
		{Code: []api.Instr{{Op: api.OpStore, B: 3}, {Op: api.OpTrap}}, Secret: []bool{true}},
		{Code: []api.Instr{{Op: api.OpOn}, {Op: api.OpBack}, {Op: math.MinInt}, {Op: math.MaxInt}}, Secret: []bool{true}},
		{Code: []api.Instr{{Op: api.OpTrap}}, Params: math.MaxInt},
		{Code: []api.Instr{{Op: api.OpTrap}}, Params: -1},
	} {
		for _, tab := range []api.Table{{}, mostSeen(), allSeen()} {
			want, _ := flow.Check(f)
			wantError(t, f, tab, want)
		}
	}
	f := one(api.Instr{Op: api.OpMul, D: 3, B: 1}, true, true, true, true)
	for op := range 18 {
		for _, seen := range []int{-1, 8, math.MaxInt, math.MinInt} {
			wantError(t, f, only(op, seen), table.Wrong(only(op, seen)))
		}
	}
}

// given has words, and words of arrays, that hang on n.
func given(f api.Fn, n int) api.Given {
	var g api.Given
	for k := range f.Params {
		g.Words = append(g.Words, []int{n * 7 % 11, n % 3, n << 30 & api.MaxWord, api.MaxWord - n}[(n+k)%4])
	}
	for b, v := range f.Arrays {
		l := make([]int, v.Size)
		for k := range l {
			l[k] = n*1000 + b*100 + k
		}
		g.Arrays = append(g.Arrays, l)
	}
	return g
}

// Programs end legal as they do, by chapter 5, of which the flat instructions have no part.
func TestProgramsEndLegalAsTheyDo(t *testing.T) {
	for _, s := range []string{
		"(fn ((sec a)) () (ret (* a 3)))",
		"(fn ((sec a) (sec b)) () (ret (+ (* (/ a b) b) (% a b))))",
		"(fn ((pub a) (sec b)) ((sec t 4) (pub u 2)) (let sec x (+ a b)) (if x ((put t 1 x) (set x 3)) ((put t 2 b))) (put u (% a 2) (+ a 1)) (ret (^ x (at t 1))))",
		"(fn ((sec k)) ((pub t 4)) (let sec x 0) (for i 4 (set x (sel (= i k) (at t i) x))) (ret x))",
		"(fn ((sec a) (pub b)) () (let sec x (>> a b)) (set x (<< x a)) (if (< x 9) ((if b ((set x (| x 256))) ())) ()) (ret (& x 65535)))",
		"(fn ((pub a) (sec b)) ((sec t 2)) (put t a (<< b b)) (ret (>> (at t a) b)))",
		"(fn ((sec a) (sec b)) () (if (< a b) ((if (= a 1) ((set a 5)) ((set b a)))) ((set a (- a b)))) (ret (+ a b)))",
		"(fn () () (for i 3 (for j 2 (let pub x (* i j)))))",
	} {
		f, err := lang.Parse(s)
		if err != api.OK || label.Check(f) != api.OK {
			t.Fatalf("%q is no right program", s)
		}
		x, _ := lower.Lower(f)
		for _, tab := range []api.Table{{}, mostSeen(), only(api.OpSel, 1), only(api.OpMul, 3), only(api.OpLess, 2)} {
			y := legalOf(t, x, tab)
			for n := range 24 {
				g := given(f, n)
				want, _ := eval.Run(f, g)
				if got, _ := flow.Run(y, tab, g); !sameEnd(got, want) {
					t.Fatalf("%q, legal by %v, of %v, ends %v, not %v", s, tab, g, got, want)
				}
			}
		}
	}
}
