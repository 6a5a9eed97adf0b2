package table_test

import (
	"math"
	"slices"
	"strconv"
	"strings"
	"testing"

	"evenpace/api"
	"evenpace/table"
)

// namesByOp is written out beside the program's own list, so that no fault is shared.
var namesByOp = map[int]string{
	api.OpAdd: "add", api.OpSub: "sub", api.OpAnd: "and", api.OpOr: "or", api.OpXor: "xor",
	api.OpShl: "shl", api.OpShr: "shr", api.OpMul: "mul", api.OpDiv: "div", api.OpRem: "rem",
	api.OpLess: "less", api.OpSame: "same", api.OpSel: "sel", api.OpConst: "const",
	api.OpMove: "move", api.OpLoad: "load", api.OpStore: "store",
}

// mostByOp has the greatest Seen of a right table.
var mostByOp = [18]int{0, 3, 3, 3, 3, 3, 3, 3, 3, 3, 3, 3, 3, 7, 0, 1, 1, 3}

func TestNames(t *testing.T) {
	got := table.Names()
	if len(got) != len(namesByOp) {
		t.Fatalf("Names() has %d names; want %d", len(got), len(namesByOp))
	}
	for op, want := range namesByOp {
		if got[op-api.OpAdd] != want {
			t.Errorf("the name of op %d is %q; want %q", op, got[op-api.OpAdd], want)
		}
	}
}

func TestNamesAreTheCallers(t *testing.T) {
	got := table.Names()
	for i := range got {
		got[i] = "zap"
	}
	_ = append(got, "zap")
	if slices.Contains(table.Names(), "zap") {
		t.Error("what was written into an answer of Names is in the next one")
	}
	if _, err := table.Parse("add 3\n"); err != api.OK {
		t.Errorf("Parse no longer knows add: %d", err)
	}
}

func TestAll(t *testing.T) {
	for op := api.OpAdd; op <= api.OpSame; op++ {
		wantAll(t, op, api.SeenA|api.SeenB)
	}
	wantAll(t, api.OpSel, api.SeenA|api.SeenB|api.SeenC)
	wantAll(t, api.OpConst, 0)
	wantAll(t, api.OpMove, api.SeenA)
	wantAll(t, api.OpLoad, api.SeenA|api.SeenB)
	wantAll(t, api.OpStore, api.SeenA|api.SeenB)
	for op := api.OpJump; op <= api.OpBack+3; op++ {
		wantAll(t, op, 0)
	}
	for _, op := range []int{0, -1, -12, 256 + api.OpAdd, 1<<32 + api.OpSel, math.MinInt, math.MaxInt} {
		wantAll(t, op, 0)
	}
}

func TestWrongOfOneOp(t *testing.T) {
	for op := api.OpAdd; op <= api.OpStore; op++ {
		for seen := -20; seen <= 20; seen++ {
			want := api.ErrRange
			if seen >= 0 && seen&mostByOp[op] == seen {
				want = api.OK
			}
			wantWrong(t, only(op, seen), want)
		}
		for _, seen := range []int{8, 1 << 31, 1 << 32, 1<<32 + 1, 1 << 62, math.MaxInt, math.MinInt, math.MinInt + 1} {
			wantWrong(t, only(op, seen), api.ErrRange)
		}
	}
}

func TestWrongOfNought(t *testing.T) {
	for _, seen := range []int{1, 2, 7, -1, 1 << 32, math.MinInt, math.MaxInt} {
		wantWrong(t, only(0, seen), api.ErrKind)
		for op := api.OpAdd; op <= api.OpStore; op++ {
			both := only(0, seen)
			both.Seen[op] = 8
			wantWrong(t, both, api.ErrKind)
		}
	}
}

func TestWrongOfWholeTables(t *testing.T) {
	wantWrong(t, api.Table{}, api.OK)
	wantWrong(t, api.Table{Seen: mostByOp}, api.OK)
	for op := api.OpAdd; op <= api.OpStore; op++ {
		more := api.Table{Seen: mostByOp}
		more.Seen[op]++
		wantWrong(t, more, api.ErrRange)
	}
}

func TestText(t *testing.T) {
	var some api.Table
	some.Seen[api.OpMul] = 3
	some.Seen[api.OpSel] = 1
	wantText(t, some, "mul 3\nsel 1\n")
	wantText(t, api.Table{}, "")
	wantText(t, api.Table{Seen: mostByOp}, "add 3\nsub 3\nand 3\nor 3\nxor 3\nshl 3\nshr 3\nmul 3\ndiv 3\nrem 3\nless 3\nsame 3\nsel 7\nmove 1\nload 1\nstore 3\n")
	for op, most := range mostByOp {
		for seen := 1; seen <= most; seen++ {
			wantText(t, only(op, seen), namesByOp[op]+" "+strconv.Itoa(seen)+"\n")
		}
	}
}

func TestTextOfWrongTables(t *testing.T) {
	for op := range 18 {
		wrong := api.Table{Seen: mostByOp}
		wrong.Seen[op] = -1
		want := api.ErrRange
		if op == 0 {
			want = api.ErrKind
		}
		if got, err := table.Text(wrong); got != "" || err != want {
			t.Errorf("Text with -1 of op %d = %q, %d; want %d", op, got, err, want)
		}
	}
}

func TestParse(t *testing.T) {
	wantParse(t, "", api.Table{})
	wantParse(t, "mul 3\n", only(api.OpMul, 3))
	wantParse(t, "sel 4\n", only(api.OpSel, 4))
	two := only(api.OpMul, 3)
	two.Seen[api.OpSel] = 1
	wantParse(t, "mul 3\nsel 1\n", two)
	ends := only(api.OpAdd, 1)
	ends.Seen[api.OpStore] = 2
	wantParse(t, "add 1\nstore 2\n", ends)
}

func TestParseReadsWhatTextWrites(t *testing.T) {
	texts := []api.Table{{}, {Seen: mostByOp}}
	for op, most := range mostByOp {
		for seen := range most + 1 {
			texts = append(texts, only(op, seen))
			full := api.Table{Seen: mostByOp}
			full.Seen[op] = seen
			texts = append(texts, full)
		}
	}
	for _, x := range texts {
		s, err := table.Text(x)
		if err != api.OK {
			t.Errorf("Text(%v): %d", x, err)
		}
		wantParse(t, s, x)
	}
}

func TestParseOfLinesWithoutTheirForm(t *testing.T) {
	for _, s := range []string{
		"mul", "mul 3", "zap", "zap 1", " ", "mul 3\nsel 7", "mul 3\nsel 7\n ", // no line feed
		"\n", "mul\n", "zap\n", "mul3\n", "mul\t3\n", "mul\u00a03\n", "mul 3\n\n", "\nmul 3\n", "mul 3\nsel\n", // no blank
	} {
		wantError(t, s, api.ErrForm)
	}
}

func TestParseOfNamesThatThereAreNot(t *testing.T) {
	for _, s := range []string{
		"zap 1\n", " 3\n", " \n", " mul 3\n", "Mul 3\n", "MUL 3\n", "mu 3\n", "mull 3\n", "mul\r 3\n", "mul\x00 3\n",
		"jump 1\n", "zero 1\n", "ret 1\n", "trap 1\n", "on 1\n", "back 1\n", "\xff 1\n", "add,sub 1\n",
		"zap x\n", "zap 0\n", "zap \n", // the name is looked at first
		"mul 3\nzap 1\n", "sel 7\nzap 0\n",
	} {
		wantError(t, s, api.ErrName)
	}
}

func TestParseOfWhatIsNoNumber(t *testing.T) {
	for _, number := range []string{
		"", "0", "00", "03", "003", "-1", "-3", "+3", "-0", "+", "-", "x", "3x", "x3", "0x3", "0b1", "1_0", "3.0", "1e0",
		" 3", "3 ", "3 3", "3\r", "\t3", "3\x00", "\u0663", "\uff13", "\xb3",
		"9223372036854775808", "18446744073709551617", "18446744073709551619", // no whole numbers of int
		strings.Repeat("9", 5000), strings.Repeat("0", 5000) + "3",
	} {
		wantError(t, "mul "+number+"\n", api.ErrForm)
		wantError(t, "add 3\nmul "+number+"\n", api.ErrForm)
	}
}

func TestParseOfNumbersThatAreTooGreat(t *testing.T) {
	for op, most := range mostByOp {
		for seen := 1; seen <= 16; seen++ {
			if op != 0 && seen&^most != 0 {
				wantError(t, namesByOp[op]+" "+strconv.Itoa(seen)+"\n", api.ErrRange)
			}
		}
	}
	for _, number := range []string{"4294967295", "4294967296", "4294967299", "9223372036854775807"} {
		wantError(t, "sel "+number+"\n", api.ErrRange)
	}
}

func TestParseKeepsTheOrderOfTheOps(t *testing.T) {
	for a := api.OpAdd; a <= api.OpStore; a++ {
		for b := api.OpAdd; b <= api.OpStore; b++ {
			if mostByOp[a] == 0 || mostByOp[b] == 0 {
				continue
			}
			s := namesByOp[a] + " 1\n" + namesByOp[b] + " 1\n"
			if a >= b {
				wantError(t, s, api.ErrForm)
				continue
			}
			want := only(a, 1)
			want.Seen[b] = 1
			wantParse(t, s, want)
		}
	}
	wantError(t, "add 1\nsel 1\nmul 1\n", api.ErrForm) // behind the first one is not enough
}

func TestParseTellsTheFirstError(t *testing.T) {
	for _, c := range []struct {
		s    string
		want api.Errno
	}{
		{"zap 1\nmul\n", api.ErrName},
		{"mul\nzap 1\n", api.ErrForm},
		{"mul 0\nzap 1\n", api.ErrForm},
		{"zap 1\nsel 3", api.ErrName},
		{"sel 3\nmul 3\nzap 1\n", api.ErrForm},
		{"sel 3\nzap 1\nmul 3\n", api.ErrName},
		{"sel 3\nmul 4\n", api.ErrForm},
		// What is right of the whole table is looked at behind the last line.
		{"mul 4\nzap 1\n", api.ErrName},
		{"mul 4\nmul 3\n", api.ErrForm},
		{"mul 4\nsel 3", api.ErrForm},
		{"mul 4\nsel 3\n", api.ErrRange},
	} {
		wantError(t, c.s, c.want)
	}
}

func TestParseOfLongTextsEnds(t *testing.T) {
	wantError(t, strings.Repeat("mul 3\n", 1<<18), api.ErrForm)
	wantError(t, strings.Repeat("m", 1<<20), api.ErrForm)
	wantError(t, strings.Repeat("m", 1<<20)+" 3\n", api.ErrName)
}

// only is a table that tells of op alone.
func only(op, seen int) api.Table {
	var x api.Table
	x.Seen[op] = seen
	return x
}

func wantAll(t *testing.T, op, want int) {
	t.Helper()
	if got := table.All(op); got != want {
		t.Errorf("All(%d) = %d; want %d", op, got, want)
	}
}

func wantWrong(t *testing.T, x api.Table, want api.Errno) {
	t.Helper()
	if got := table.Wrong(x); got != want {
		t.Errorf("Wrong(%v) = %d; want %d", x, got, want)
	}
}

func wantText(t *testing.T, x api.Table, want string) {
	t.Helper()
	if got, err := table.Text(x); got != want || err != api.OK {
		t.Errorf("Text(%v) = %q, %d; want %q, OK", x, got, err, want)
	}
}

func wantParse(t *testing.T, s string, want api.Table) {
	t.Helper()
	if got, err := table.Parse(s); got != want || err != api.OK {
		t.Errorf("Parse(%q) = %v, %d; want %v, OK", s, got, err, want)
	}
}

func wantError(t *testing.T, s string, want api.Errno) {
	t.Helper()
	if got, err := table.Parse(s); got != (api.Table{}) || err != want {
		t.Errorf("Parse(%.60q) = %v, %d; want zeros, %d", s, got, err, want)
	}
}
