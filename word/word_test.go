package word_test

import (
	"math"
	"math/big"
	"strconv"
	"strings"
	"testing"

	"evenpace/api"
	"evenpace/word"
)

// numbers has words, their edges, and numbers that are no words, among them those whose lowest 32 bits are 0.
var numbers = []int{
	0, 1, 2, 3, 5, 7, 10, 31, 32, 33, 63, 64, 255, 256, 65535, 65536, 65537,
	1<<31 - 1, 1 << 31, 1<<31 + 1, 0xdeadbeef, 0x55555555, 0xaaaaaaaa,
	api.MaxWord - 1, api.MaxWord,
	1 << 32, 1<<32 + 1, 1<<32 + 7, 1<<33 - 1, 1 << 62, math.MaxInt - 1, math.MaxInt,
	-1, -2, -7, -31, -32, -1 << 31, -1<<32 + 1, -1 << 32, -1<<32 - 1, math.MinInt, math.MinInt + 1,
}

func TestTwoOrdinary(t *testing.T) {
	for _, c := range []struct{ op, a, b, want int }{
		{api.OpAdd, 5, 5, 10},
		{api.OpSub, 7, 5, 2},
		{api.OpAnd, 12, 10, 8},
		{api.OpOr, 12, 10, 14},
		{api.OpXor, 12, 10, 6},
		{api.OpShl, 3, 4, 48},
		{api.OpShr, 48, 4, 3},
		{api.OpMul, 6, 7, 42},
		{api.OpDiv, 17, 5, 3},
		{api.OpRem, 17, 5, 2},
		{api.OpLess, 4, 5, 1},
		{api.OpLess, 5, 5, 0},
		{api.OpLess, 6, 5, 0},
		{api.OpSame, 4, 5, 0},
		{api.OpSame, 5, 5, 1},
		{api.OpSame, 6, 5, 0},
	} {
		wantTwo(t, c.op, c.a, c.b, c.want)
	}
}

func TestTwoEdges(t *testing.T) {
	for _, c := range []struct{ op, a, b, want int }{
		{api.OpAdd, api.MaxWord, 1, 0},
		{api.OpAdd, api.MaxWord, api.MaxWord, api.MaxWord - 1},
		{api.OpSub, 0, 1, api.MaxWord},
		{api.OpSub, 0, api.MaxWord, 1},
		{api.OpMul, api.MaxWord, api.MaxWord, 1},
		{api.OpMul, 1 << 16, 1 << 16, 0},
		{api.OpDiv, api.MaxWord, 1, api.MaxWord},
		{api.OpLess, 1<<31 - 1, 1 << 31, 1}, // words have no sign
		{api.OpLess, api.MaxWord, 0, 0},
		{api.OpDiv, api.MaxWord, 1 << 31, 1},
		{api.OpRem, api.MaxWord, 1 << 31, 1<<31 - 1},
		{api.OpShr, api.MaxWord, 31, 1}, // noughts come in from above
	} {
		wantTwo(t, c.op, c.a, c.b, c.want)
	}
}

func TestTwoByNought(t *testing.T) {
	for _, nought := range []int{0, 1 << 32, -1 << 32, 1 << 62, math.MinInt} {
		wantTwo(t, api.OpDiv, 7, nought, api.MaxWord)
		wantTwo(t, api.OpDiv, 0, nought, api.MaxWord)
		wantTwo(t, api.OpRem, 7, nought, 7)
		wantTwo(t, api.OpRem, 0, nought, 0)
		wantTwo(t, api.OpRem, api.MaxWord, nought, api.MaxWord)
		wantTwo(t, api.OpRem, -1, nought, api.MaxWord)
	}
}

func TestTwoMovesByLowestFiveBits(t *testing.T) {
	for _, c := range []struct{ op, a, b, want int }{
		{api.OpShl, 1, 31, 1 << 31},
		{api.OpShl, 1, 32, 1},
		{api.OpShl, 1, 33, 2},
		{api.OpShl, 3, 31, 1 << 31},
		{api.OpShl, 1, api.MaxWord, 1 << 31},
		{api.OpShl, 1, -1, 1 << 31},
		{api.OpShl, 5, 1 << 32, 5},
		{api.OpShr, 1 << 31, 31, 1},
		{api.OpShr, 1 << 31, 32, 1 << 31},
		{api.OpShr, 1 << 31, 33, 1 << 30},
		{api.OpShr, 1 << 31, api.MaxWord, 1},
		{api.OpShr, 1 << 31, -1, 1},
		{api.OpShr, 1 << 32, 1, 0}, // bits above the lowest 32 do not come down
		{api.OpShr, -1, 1, 1<<31 - 1},
	} {
		wantTwo(t, c.op, c.a, c.b, c.want)
	}
}

func TestTwoOfNumbersThatAreNoWords(t *testing.T) {
	for _, c := range []struct{ op, a, b, want int }{
		{api.OpAdd, 1<<32 + 5, -3, 2},
		{api.OpAdd, math.MaxInt, math.MaxInt, api.MaxWord - 1},
		{api.OpSub, math.MinInt, 1, api.MaxWord},
		{api.OpAnd, -1, 1<<32 + 9, 9},
		{api.OpOr, 1 << 32, 1 << 40, 0},
		{api.OpXor, -1, 0, api.MaxWord},
		{api.OpMul, -1, -1, 1},
		{api.OpDiv, -1, 2, 1<<31 - 1},
		{api.OpRem, -1, 10, 5},
		{api.OpLess, -1, 0, 0},
		{api.OpLess, 1 << 32, 1, 1},
		{api.OpSame, -1, api.MaxWord, 1},
		{api.OpSame, 1<<32 + 4, 4, 1},
	} {
		wantTwo(t, c.op, c.a, c.b, c.want)
	}
}

func TestTwoOfOpsThatThereAreNot(t *testing.T) {
	ops := []int{
		0, -1, math.MinInt, math.MaxInt, 1<<32 + api.OpAdd, 256 + api.OpAdd,
		api.OpSel, api.OpConst, api.OpMove, api.OpLoad, api.OpStore, api.OpJump,
		api.OpZero, api.OpRet, api.OpTrap, api.OpOn, api.OpBack, api.OpBack + 1,
	}
	for _, op := range ops {
		for _, a := range numbers {
			if got, err := word.Two(op, a, 7); got != 0 || err != api.ErrKind {
				t.Errorf("Two(%d, %d, 7) = %d, %d; want 0, ErrKind", op, a, got, err)
			}
		}
	}
}

func TestTwoAgainstWholeNumbers(t *testing.T) {
	for _, a := range numbers {
		for _, b := range numbers {
			for op := api.OpAdd; op <= api.OpSame; op++ {
				want := wholeTwo(op, lowest(big.NewInt(int64(a))), lowest(big.NewInt(int64(b))))
				wantTwo(t, op, a, b, int(want.Int64()))
			}
		}
	}
}

func TestSel(t *testing.T) {
	for _, c := range []struct{ a, b, c, want int }{
		{1, 5, 6, 5},
		{0, 5, 6, 6},
		{2, 5, 6, 5},
		{1 << 31, 5, 6, 5},
		{api.MaxWord, 5, 6, 5},
		{-1, 5, 6, 5},
		{1 << 32, 5, 6, 6}, // its lowest 32 bits are 0
		{-1 << 32, 5, 6, 6},
		{math.MinInt, 5, 6, 6},
		{1<<32 + 1, 5, 6, 5},
		{1, -1, 6, api.MaxWord},
		{0, 5, -1, api.MaxWord},
		{1, 1<<32 + 3, 6, 3},
		{0, 5, 1<<32 + 3, 3},
		{1, 0, api.MaxWord, 0},
		{0, api.MaxWord, 0, 0},
	} {
		if got := word.Sel(c.a, c.b, c.c); got != c.want {
			t.Errorf("Sel(%d, %d, %d) = %d; want %d", c.a, c.b, c.c, got, c.want)
		}
	}
}

func TestIs(t *testing.T) {
	for _, n := range []int{0, 1, 7, 1<<31 - 1, 1 << 31, api.MaxWord - 1, api.MaxWord} {
		if !word.Is(n) {
			t.Errorf("Is(%d) = false", n)
		}
	}
	for _, n := range []int{-1, -2, -1 << 31, -1 << 32, math.MinInt, api.MaxWord + 1, 1<<32 + 1, 1 << 62, math.MaxInt} {
		if word.Is(n) {
			t.Errorf("Is(%d) = true", n)
		}
	}
}

func TestNumberReadsWhatWasWritten(t *testing.T) {
	for _, n := range numbers {
		s := strconv.Itoa(n)
		got, ok := word.Number(s)
		if ok != word.Is(n) {
			t.Errorf("Number(%q) = %d, %v", s, got, ok)
		}
		if ok && got != n {
			t.Errorf("Number(%q) = %d", s, got)
		}
	}
	for _, c := range []struct {
		s    string
		want int
	}{{"0", 0}, {"9", 9}, {"10", 10}, {"1234567890", 1234567890}, {"4294967295", api.MaxWord}} {
		if got, ok := word.Number(c.s); got != c.want || !ok {
			t.Errorf("Number(%q) = %d, %v; want %d, true", c.s, got, ok, c.want)
		}
	}
}

func TestNumberOfWhatIsNone(t *testing.T) {
	wrong := []string{
		"", "00", "01", "007", "0000000000", "04294967295",
		"-", "+", "-0", "+0", "-1", "+7",
		"4294967296", "4294967300", "9999999999", "42949672950", "18446744073709551616", "18446744073709551623",
		strings.Repeat("9", 5000), strings.Repeat("0", 5000),
		" ", " 7", "7 ", "7\n", "\t7", "1 2", "7\x00", "\x00",
		"x", "0x7", "7x", "1_000", "1e3", "7.", ".7", "1,0", "/", ":", "1/", "1:",
		"\u0667", "\uff17", "7\xff", "\xb7", // digits of other scripts, and what is no text at all
	}
	for _, s := range wrong {
		if got, ok := word.Number(s); ok || got != 0 {
			t.Errorf("Number(%q) = %d, %v; want 0, false", s, got, ok)
		}
	}
	for c := range 256 {
		digit := c >= '0' && c <= '9'
		if _, ok := word.Number(string([]byte{byte(c)})); ok != digit {
			t.Errorf("Number of the byte %d alone: %v", c, ok)
		}
		if _, ok := word.Number(string([]byte{'1', byte(c), '2'})); ok != digit {
			t.Errorf("Number of the byte %d between digits: %v", c, ok)
		}
	}
}

func wantTwo(t *testing.T, op, a, b, want int) {
	t.Helper()
	if got, err := word.Two(op, a, b); got != want || err != api.OK {
		t.Errorf("Two(%d, %d, %d) = %d, %d; want %d, OK", op, a, b, got, err, want)
	}
}

// lowest is what is left of n by 2^32, which is never below 0.
func lowest(n *big.Int) *big.Int {
	return new(big.Int).Mod(n, big.NewInt(1<<32))
}

// wholeTwo does in numbers of any size what Two does in words of the machine, so that no fault is shared.
func wholeTwo(op int, a, b *big.Int) *big.Int {
	power := new(big.Int).Exp(big.NewInt(2), new(big.Int).Mod(b, big.NewInt(32)), nil)
	n := new(big.Int)
	switch op {
	case api.OpAdd:
		n.Add(a, b)
	case api.OpSub:
		n.Sub(a, b)
	case api.OpAnd:
		n.And(a, b)
	case api.OpOr:
		n.Or(a, b)
	case api.OpXor:
		n.Xor(a, b)
	case api.OpShl:
		n.Mul(a, power)
	case api.OpShr:
		n.Quo(a, power)
	case api.OpMul:
		n.Mul(a, b)
	case api.OpDiv:
		if b.Sign() == 0 {
			return big.NewInt(api.MaxWord)
		}
		n.Quo(a, b)
	case api.OpRem:
		if b.Sign() == 0 {
			return a
		}
		n.Rem(a, b)
	case api.OpLess:
		if a.Cmp(b) < 0 {
			n.SetInt64(1)
		}
	case api.OpSame:
		if a.Cmp(b) == 0 {
			n.SetInt64(1)
		}
	}
	return lowest(n)
}
