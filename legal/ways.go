package legal

import "evenpace/api"

const (
	wordBits = 32
	moveBits = 5 // of them a word is moved by the lowest ones
	topBit   = wordBits - 1
)

// otherwise does i by adding, taking away, OpAnd, OpOr, OpXor, and moving down by numbers that are known; the last instruction makes what i makes. It tells whether there is a way.
func (m *maker) otherwise(i api.Instr) bool {
	clear(m.numbers)
	switch i.Op {
	case api.OpShl:
		m.moved(i.A, i.B, m.up)
	case api.OpShr:
		m.moved(i.A, i.B, m.down)
	case api.OpMul:
		m.product(i.A, i.B)
	case api.OpDiv:
		m.quotient(i.A, i.B)
	case api.OpRem:
		m.remainder(i.A, i.B)
	case api.OpLess:
		m.below(i.A, i.B)
	case api.OpSame:
		m.two(api.OpXor, m.some(m.two(api.OpXor, i.A, i.B)), m.number(1))
	case api.OpSel:
		m.choose(m.all(m.some(i.A)), i.B, i.C)
	default:
		return false
	}
	return true
}

// moved is a, moved by each bit of b, or not. How far one moves is known then, but not whether.
func (m *maker) moved(a, b int, by func(a, far int) int) {
	for k := range moveBits {
		bit := m.two(api.OpAnd, m.two(api.OpShr, b, m.number(k)), m.number(1))
		a = m.choose(m.all(bit), by(a, 1<<k), a)
	}
}

// up doubles, so that it is no matter what is seen of OpShl.
func (m *maker) up(a, far int) int {
	for range far {
		a = m.double(a)
	}
	return a
}

func (m *maker) down(a, far int) int {
	return m.two(api.OpShr, a, m.number(far))
}

// product adds a, moved up, for each bit of b.
func (m *maker) product(a, b int) {
	sum := m.number(0)
	for range wordBits {
		part := m.two(api.OpAnd, a, m.all(m.two(api.OpAnd, b, m.number(1))))
		a, b = m.double(a), m.down(b, 1)
		sum = m.two(api.OpAdd, sum, part)
	}
}

// quotient is MaxWord, if b is 0, as it must be: b is in whatever is left then.
func (m *maker) quotient(a, b int) {
	d := division{maker: m, rest: a, by: b, left: m.number(0)}
	often := m.number(0)
	for range wordBits {
		in := d.step()
		often = m.two(api.OpSub, m.double(often), in)
	}
}

// remainder is a, if b is 0, as it must be: nothing is taken away then.
func (m *maker) remainder(a, b int) {
	d := division{maker: m, rest: a, by: b, left: m.number(0)}
	for range wordBits {
		d.step()
	}
}

// division divides as by hand, in twos: rest has the bits that are not looked at yet, uppermost; left is what is left of those that are.
type division struct {
	*maker
	rest, by, left int
}

// step looks at one more bit. All bits come of it, if by is in what is left with that bit behind it, else none; and what is left is less by that. Nothing is lost in doubling: what is left ahead of the last bit comes of 31 bits.
func (d *division) step() int {
	now := d.two(api.OpOr, d.double(d.left), d.top(d.rest))
	d.rest = d.double(d.rest)
	in := d.two(api.OpSub, d.below(now, d.by), d.number(1))
	d.left = d.two(api.OpSub, now, d.two(api.OpAnd, d.by, in))
	return in
}

// below is 1, if a is below b, else 0: where both have the same uppermost bit, that of the difference tells it, else b's.
func (m *maker) below(a, b int) int {
	less := m.two(api.OpSub, a, b)
	return m.top(m.two(api.OpXor, a, m.two(api.OpOr, m.two(api.OpXor, a, b), m.two(api.OpXor, a, less))))
}

// some is 1, if a has a bit, else 0: a, or what it lacks of 2^32, has the uppermost one then.
func (m *maker) some(a int) int {
	return m.top(m.two(api.OpOr, a, m.two(api.OpSub, m.number(0), a)))
}

// choose is b, where mask has bits, else c.
func (m *maker) choose(mask, b, c int) int {
	return m.two(api.OpXor, c, m.two(api.OpAnd, m.two(api.OpXor, b, c), mask))
}

// all has all bits, if bit is 1, and none, if it is 0.
func (m *maker) all(bit int) int {
	return m.two(api.OpSub, m.number(0), bit)
}

func (m *maker) top(a int) int {
	return m.down(a, topBit)
}

func (m *maker) double(a int) int {
	return m.two(api.OpAdd, a, a)
}
