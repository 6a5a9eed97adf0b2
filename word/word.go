// Package word has words of 32 bits: see doc/01-word.md.
package word

import "evenpace/api"

// lowFive: a word has 32 bits, so it is moved by no more than 31.
const lowFive = 31

// mostDigits: MaxWord has ten digits. A longer text is no word, and numbers of ten digits cannot overflow int.
const mostDigits = 10

// Two makes a word of two, by one of OpAdd to OpSame; of any other op it tells ErrKind.
func Two(op, a, b int) (int, api.Errno) {
	x, y := uint32(a), uint32(b)
	switch op {
	case api.OpAdd:
		return int(x + y), api.OK
	case api.OpSub:
		return int(x - y), api.OK
	case api.OpAnd:
		return int(x & y), api.OK
	case api.OpOr:
		return int(x | y), api.OK
	case api.OpXor:
		return int(x ^ y), api.OK
	case api.OpShl:
		return int(x << (y & lowFive)), api.OK
	case api.OpShr:
		return int(x >> (y & lowFive)), api.OK
	case api.OpMul:
		return int(x * y), api.OK
	case api.OpDiv:
		return int(quotient(x, y)), api.OK
	case api.OpRem:
		return int(remainder(x, y)), api.OK
	case api.OpLess:
		return oneIf(x < y), api.OK
	case api.OpSame:
		return oneIf(x == y), api.OK
	}
	return 0, api.ErrKind
}

// Sel is b, if a is not 0, else c; as words, all three.
func Sel(a, b, c int) int {
	if uint32(a) != 0 {
		return int(uint32(b))
	}
	return int(uint32(c))
}

// Is tells whether n is a word as it stands.
func Is(n int) bool {
	return n >= 0 && n <= api.MaxWord
}

// Number reads a word in tens, without a needless 0 or a sign.
func Number(s string) (int, bool) {
	if s == "" || len(s) > mostDigits || len(s) > 1 && s[0] == '0' {
		return 0, false
	}
	n := 0
	for i := range len(s) {
		if s[i] < '0' || s[i] > '9' {
			return 0, false
		}
		n = n*10 + int(s[i]-'0')
	}
	if !Is(n) {
		return 0, false
	}
	return n, true
}

func quotient(x, y uint32) uint32 {
	if y == 0 {
		return api.MaxWord
	}
	return x / y
}

func remainder(x, y uint32) uint32 {
	if y == 0 {
		return x
	}
	return x % y
}

func oneIf(holds bool) int {
	if holds {
		return 1
	}
	return 0
}
