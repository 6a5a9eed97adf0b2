package code_test

import (
	"math"
	"math/rand"
	"slices"
	"testing"

	"evenpace/api"
	"evenpace/code"
)

func wantBytes(t *testing.T, i api.Instr, want []byte, err api.Errno) {
	t.Helper()
	if b, e := code.Bytes(i); !slices.Equal(b, want) || e != err {
		t.Errorf("Bytes of %v is %v, %d, not %v, %d", i, b, e, want, err)
	}
}

func wantParse(t *testing.T, b []byte, want api.Instr, err api.Errno) {
	t.Helper()
	if i, e := code.Parse(b); i != want || e != err {
		t.Errorf("Parse of %v is %v, %d, not %v, %d", b, i, e, want, err)
	}
}

func TestBytes(t *testing.T) {
	for op := api.OpAdd; op <= api.OpBack; op++ {
		o := byte(op)
		wantBytes(t, api.Instr{Op: op}, []byte{o, 0, 0, 0, 0, 0, 0, 0}, api.OK)
		wantBytes(t, api.Instr{Op: op, D: 1, A: 2, B: 3}, []byte{o, 1, 2, 3, 0, 0, 0, 0}, api.OK)
		wantBytes(t, api.Instr{Op: op, D: 255, A: 254, B: 253}, []byte{o, 255, 254, 253, 0, 0, 0, 0}, api.OK)
		if op == api.OpSel {
			continue
		}
		wantBytes(t, api.Instr{Op: op, D: 1, A: 2, B: 3, Imm: 0x01020304}, []byte{o, 1, 2, 3, 1, 2, 3, 4}, api.OK)
		wantBytes(t, api.Instr{Op: op, Imm: 1 << 31}, []byte{o, 0, 0, 0, 128, 0, 0, 0}, api.OK)
		wantBytes(t, api.Instr{Op: op, Imm: api.MaxWord}, []byte{o, 0, 0, 0, 255, 255, 255, 255}, api.OK)
		wantBytes(t, api.Instr{Op: op, C: 1}, nil, api.ErrForm)
		wantBytes(t, api.Instr{Op: op, C: 255, Imm: 3}, nil, api.ErrForm)
	}
	wantBytes(t, api.Instr{Op: api.OpSel, D: 1, A: 2, B: 3, C: 4}, []byte{13, 1, 2, 3, 0, 0, 0, 4}, api.OK)
	wantBytes(t, api.Instr{Op: api.OpSel, C: 255}, []byte{13, 0, 0, 0, 0, 0, 0, 255}, api.OK)
	wantBytes(t, api.Instr{Op: api.OpSel, C: 4, Imm: 4}, nil, api.ErrForm)
	wantBytes(t, api.Instr{Op: api.OpSel, Imm: 1}, nil, api.ErrForm)
}

func TestBytesOfWhatHasNone(t *testing.T) {
	for _, n := range []int{-1, 256, 1 << 32, math.MinInt, math.MaxInt} {
		for op := range 26 {
			// This is told first, whatever else is wrong.
			for _, imm := range []int{0, 5, -1, 1 << 32} {
				wantBytes(t, api.Instr{Op: op, D: n, Imm: imm}, nil, api.ErrRange)
				wantBytes(t, api.Instr{Op: op, A: n, Imm: imm}, nil, api.ErrRange)
				wantBytes(t, api.Instr{Op: op, B: n, Imm: imm}, nil, api.ErrRange)
				wantBytes(t, api.Instr{Op: op, C: n, Imm: imm}, nil, api.ErrRange)
			}
		}
		wantBytes(t, api.Instr{Op: n}, nil, api.ErrRange)
		wantBytes(t, api.Instr{Op: n, C: 1, Imm: -1}, nil, api.ErrRange)
	}
	for _, op := range []int{0, 24, 25, 100, 255} {
		wantBytes(t, api.Instr{Op: op}, nil, api.ErrKind)
		wantBytes(t, api.Instr{Op: op, D: 255, A: 255, B: 255, C: 255, Imm: -1}, nil, api.ErrKind)
	}
	for _, imm := range []int{-1, 1 << 32, math.MinInt, math.MaxInt} {
		for op := api.OpAdd; op <= api.OpBack; op++ {
			wantBytes(t, api.Instr{Op: op, Imm: imm}, nil, api.ErrRange)
			// An Imm that is no word is told ahead of one that must not be there, and of another C.
			wantBytes(t, api.Instr{Op: op, C: 7, Imm: imm}, nil, api.ErrRange)
		}
	}
}

func TestParse(t *testing.T) {
	for op := api.OpAdd; op <= api.OpBack; op++ {
		o := byte(op)
		wantParse(t, []byte{o, 0, 0, 0, 0, 0, 0, 0}, api.Instr{Op: op}, api.OK)
		if op == api.OpSel {
			continue
		}
		wantParse(t, []byte{o, 1, 2, 3, 1, 2, 3, 4}, api.Instr{Op: op, D: 1, A: 2, B: 3, Imm: 0x01020304}, api.OK)
		wantParse(t, []byte{o, 255, 254, 253, 0, 0, 1, 0}, api.Instr{Op: op, D: 255, A: 254, B: 253, Imm: 256}, api.OK)
		wantParse(t, []byte{o, 9, 8, 7, 255, 255, 255, 255}, api.Instr{Op: op, D: 9, A: 8, B: 7, Imm: api.MaxWord}, api.OK)
	}
	wantParse(t, []byte{13, 1, 2, 3, 0, 0, 0, 4}, api.Instr{Op: api.OpSel, D: 1, A: 2, B: 3, C: 4}, api.OK)
	wantParse(t, []byte{13, 1, 2, 3, 0, 0, 0, 255}, api.Instr{Op: api.OpSel, D: 1, A: 2, B: 3, C: 255}, api.OK)
}

func TestParseOfWhatIsNone(t *testing.T) {
	for n := range 20 {
		if n != 8 {
			// Whatever stands there, as there may be no op at all.
			wantParse(t, make([]byte, n), api.Instr{}, api.ErrForm)
			wantParse(t, slices.Repeat([]byte{1}, n), api.Instr{}, api.ErrForm)
			wantParse(t, slices.Repeat([]byte{13}, n), api.Instr{}, api.ErrForm)
		}
	}
	wantParse(t, nil, api.Instr{}, api.ErrForm)
	for _, op := range []byte{0, 24, 25, 128, 255} {
		wantParse(t, []byte{op, 1, 2, 3, 4, 5, 6, 7}, api.Instr{}, api.ErrKind)
	}
	for _, last := range [][]byte{{0, 0, 1, 0}, {0, 0, 1, 4}, {0, 1, 0, 4}, {1, 0, 0, 4}, {255, 255, 255, 255}, {128, 0, 0, 0}} {
		wantParse(t, append([]byte{13, 1, 2, 3}, last...), api.Instr{}, api.ErrRange)
	}
}

// There, and back.
func TestThereAndBack(t *testing.T) {
	r := rand.New(rand.NewSource(51))
	there, back := 0, 0
	for range 100000 {
		i := api.Instr{Op: r.Intn(27) - 1, D: r.Intn(256), A: r.Intn(256), B: r.Intn(257), Imm: int(r.Uint32())}
		switch r.Intn(4) {
		case 0:
			i.C, i.Imm = r.Intn(257), 0
		case 1:
			i.C = r.Intn(2)
		}
		if b, err := code.Bytes(i); err == api.OK {
			there++
			wantParse(t, b, i, api.OK)
		}
		b := make([]byte, 8)
		r.Read(b)
		b[0] %= 25
		if r.Intn(2) == 0 {
			b[4], b[5], b[6] = 0, 0, 0
		}
		if i, err := code.Parse(b); err == api.OK {
			back++
			wantBytes(t, i, b, api.OK)
		}
	}
	if there < 30000 || back < 50000 {
		t.Errorf("only %d go there, and %d back", there, back)
	}
}

func TestBytesAreOnlyRead(t *testing.T) {
	b := []byte{13, 1, 2, 3, 0, 0, 0, 4, 99, 98}
	want := api.Instr{Op: api.OpSel, D: 1, A: 2, B: 3, C: 4}
	wantParse(t, b[:8], want, api.OK)
	if !slices.Equal(b, []byte{13, 1, 2, 3, 0, 0, 0, 4, 99, 98}) {
		t.Errorf("bytes are changed to %v", b)
	}
	one, _ := code.Bytes(want)
	two, _ := code.Bytes(want)
	one = one[:cap(one)]
	for k := range one {
		one[k] = 77
	}
	if !slices.Equal(two, b[:8]) {
		t.Errorf("bytes of one call are in another one's: %v", two)
	}
}
