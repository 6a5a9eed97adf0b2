package fold

const setBits = 64

// set has numbers, a bit for each: there may be thousands of sets with thousands of numbers, and they are joined at once.
type set []uint64

func (s set) has(n int) bool {
	return s[n/setBits]>>(n%setBits)&1 == 1
}

func (s set) add(n int) {
	s[n/setBits] |= 1 << (n % setBits)
}

func (s set) drop(n int) {
	s[n/setBits] &^= 1 << (n % setBits)
}

func (s set) join(other set) {
	for k, bits := range other {
		s[k] |= bits
	}
}
