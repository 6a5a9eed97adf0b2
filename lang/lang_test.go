package lang_test

import (
	"reflect"
	"strings"
	"testing"

	"evenpace/api"
	"evenpace/lang"
)

func TestName(t *testing.T) {
	for _, s := range []string{"a", "z", "az", "abc", "abcdef", "zzzzzz", "fnn", "f", "pubs", "se", "lets", "sett", "puts", "i", "iff", "fo", "rets", "sell", "att", "ta", "fnpub", "zap"} {
		if !lang.Name(s) {
			t.Errorf("Name(%q) is false", s)
		}
	}
	for _, s := range []string{"", "abcdefg", "zzzzzzz", strings.Repeat("a", 1<<16), "fn", "pub", "sec", "let", "set", "put", "if", "for", "ret", "sel", "at",
		"A", "aB", "a1", "1a", "a b", " a", "a ", "fn pub", "a\n", "(", ")", "a)", "é", "aé", "\xff", "a\x00", "a_b", "a-b", "a`b", "a{b"} {
		if lang.Name(s) {
			t.Errorf("Name(%.20q) is true", s)
		}
	}
	for b := range 256 {
		letter := b >= 'a' && b <= 'z'
		for _, s := range []string{string([]byte{byte(b)}), string([]byte{'q', byte(b)}), string([]byte{byte(b), 'q'})} {
			if lang.Name(s) != letter {
				t.Errorf("Name(%q) is %v", s, !letter)
			}
		}
	}
}

// whole has all kinds of statements and expressions.
const whole = "(fn ((pub a) (sec b)) ((sec t 4) (pub u 8)) (let sec x (+ a 7)) (let pub y 0) (set x (sel b x 4294967295)) (put t (& a 3) (at t 1)) (if x ((set x 1) (put t 0 b)) ((for i 8 (for j 0)))) (if a () ()) (ret (^ x (at u y))))"

func wholeFn() api.Fn {
	return api.Fn{
		Params: []api.Var{{Name: "a"}, {Name: "b", Secret: true}},
		Arrays: []api.Var{{Name: "t", Secret: true, Size: 4}, {Name: "u", Size: 8}},
		Body: []api.Stmt{
			{Kind: api.StLet, Name: "x", Secret: true, Args: []api.Expr{two(api.OpAdd, name("a"), num(7))}},
			{Kind: api.StLet, Name: "y", Args: []api.Expr{num(0)}},
			{Kind: api.StSet, Name: "x", Args: []api.Expr{{Kind: api.ExSel, Args: []api.Expr{name("b"), name("x"), num(api.MaxWord)}}}},
			{Kind: api.StPut, Name: "t", Args: []api.Expr{two(api.OpAnd, name("a"), num(3)), at("t", num(1))}},
			{Kind: api.StIf, Args: []api.Expr{name("x")},
				Then: []api.Stmt{
					{Kind: api.StSet, Name: "x", Args: []api.Expr{num(1)}},
					{Kind: api.StPut, Name: "t", Args: []api.Expr{num(0), name("b")}},
				},
				Else: []api.Stmt{{Kind: api.StFor, Name: "i", N: 8, Then: []api.Stmt{{Kind: api.StFor, Name: "j"}}}},
			},
			{Kind: api.StIf, Args: []api.Expr{name("a")}},
			{Kind: api.StRet, Args: []api.Expr{two(api.OpXor, name("x"), at("u", name("y")))}},
		},
	}
}

func TestParse(t *testing.T) {
	wantParse(t, whole, wholeFn())
	wantParse(t, "(fn () ())", api.Fn{})
	wantParse(t, "(fn ((pub a) (sec b)) ((sec t 4)) (ret a))", api.Fn{
		Params: []api.Var{{Name: "a"}, {Name: "b", Secret: true}},
		Arrays: []api.Var{{Name: "t", Secret: true, Size: 4}},
		Body:   []api.Stmt{ret(name("a"))},
	})
	wantParse(t, "(fn () ((pub t 1)))", api.Fn{Arrays: []api.Var{{Name: "t", Size: 1}}})
}

// signs are written out beside the program's own, so that no fault is shared.
var signs = map[int]string{
	api.OpAdd: "+", api.OpSub: "-", api.OpAnd: "&", api.OpOr: "|", api.OpXor: "^", api.OpShl: "<<",
	api.OpShr: ">>", api.OpMul: "*", api.OpDiv: "/", api.OpRem: "%", api.OpLess: "<", api.OpSame: "=",
}

func TestSigns(t *testing.T) {
	for op, sign := range signs {
		e := two(op, name("a"), num(2))
		s := "(" + sign + " a 2)"
		if got := lang.Expr(e); got != s {
			t.Errorf("Expr of op %d is %q; want %q", op, got, s)
		}
		wantParse(t, "(fn () () (ret "+s+"))", api.Fn{Body: []api.Stmt{ret(e)}})
	}
}

// What is too many, or not there, or twice there, is for other chapters to tell.
func TestParseTellsNothingOfWhatNamesMean(t *testing.T) {
	for _, s := range []string{
		"(fn ((pub a) (pub a) (pub a) (pub a) (pub a)) ((sec a 1) (sec a 1) (sec a 1) (sec a 1)) (ret zz))",
		"(fn () () (ret 1) (ret 2) (set q (at q q)) (let pub q 1) (let pub q 1))",
		"(fn () () (ret " + strings.Repeat("(* 1 ", 3) + "1" + strings.Repeat(")", 3) + "))",
	} {
		f, err := lang.Parse(s)
		if err != api.OK || lang.Print(f) != s {
			t.Errorf("Parse(%q) = %v, %d", s, f, err)
		}
	}
}

func TestBlanksAreNoMatter(t *testing.T) {
	for _, s := range []string{
		"  " + whole, whole + "\n", "\n \n" + whole + " \n ",
		strings.ReplaceAll(whole, " ", "\n"),
		strings.ReplaceAll(whole, " ", " \n\n  "),
		strings.NewReplacer(" (", "(", ") ", ")").Replace(whole),
		strings.NewReplacer("(", " ( ", ")", " ) ").Replace(whole),
		strings.NewReplacer("(", "\n(\n", ")", "\n)\n").Replace(whole),
	} {
		wantParse(t, s, wholeFn())
	}
}

func TestOtherBytesAreNoBlanks(t *testing.T) {
	for _, b := range []string{"\t", "\r", "\x00", "\v", "\f", "\u00a0", "\x85", "\u2028", ",", ";", "[", "]", "{", "}", "\""} {
		wantError(t, "(fn () ()"+b+")", api.ErrForm)
		wantError(t, b+"(fn () ())", api.ErrForm)
		wantError(t, "(fn () ())"+b, api.ErrForm)
		wantError(t, "(fn"+b+"() ())", api.ErrForm)
		wantError(t, "(fn ((pub"+b+"a)) ())", api.ErrForm)
		wantError(t, "(fn ((pub a"+b+")) ())", api.ErrName)
		wantError(t, "(fn () () (ret a"+b+"))", api.ErrName)
		wantError(t, "(fn () () (ret"+b+"a))", api.ErrKind)
		wantError(t, "(fn () ((pub a 1"+b+")))", api.ErrForm)
	}
}

// steps has the words of a program, and what is told, if in a word's place stands one that fits nowhere.
var steps = []struct {
	word  string
	other api.Errno
}{
	{"(", api.ErrForm}, {"fn", api.ErrForm}, {"(", api.ErrForm},
	{"(", api.ErrForm}, {"pub", api.ErrForm}, {"a", api.ErrName}, {")", api.ErrForm},
	{"(", api.ErrForm}, {"sec", api.ErrForm}, {"b", api.ErrName}, {")", api.ErrForm},
	{")", api.ErrForm}, {"(", api.ErrForm},
	{"(", api.ErrForm}, {"sec", api.ErrForm}, {"t", api.ErrName}, {"4", api.ErrForm}, {")", api.ErrForm},
	{")", api.ErrForm},
	{"(", api.ErrForm}, {"let", api.ErrKind}, {"sec", api.ErrForm}, {"x", api.ErrName}, {"1", api.ErrName}, {")", api.ErrForm},
	{"(", api.ErrForm}, {"set", api.ErrKind}, {"x", api.ErrName}, {"a", api.ErrName}, {")", api.ErrForm},
	{"(", api.ErrForm}, {"put", api.ErrKind}, {"t", api.ErrName}, {"1", api.ErrName}, {"a", api.ErrName}, {")", api.ErrForm},
	{"(", api.ErrForm}, {"if", api.ErrKind}, {"a", api.ErrName},
	{"(", api.ErrForm}, {"(", api.ErrForm}, {"ret", api.ErrKind}, {"1", api.ErrName}, {")", api.ErrForm}, {")", api.ErrForm},
	{"(", api.ErrForm}, {"(", api.ErrForm}, {"ret", api.ErrKind}, {"2", api.ErrName}, {")", api.ErrForm}, {")", api.ErrForm},
	{")", api.ErrForm},
	{"(", api.ErrForm}, {"for", api.ErrKind}, {"i", api.ErrName}, {"3", api.ErrForm},
	{"(", api.ErrForm}, {"ret", api.ErrKind}, {"i", api.ErrName}, {")", api.ErrForm},
	{")", api.ErrForm},
	{"(", api.ErrForm}, {"ret", api.ErrKind},
	{"(", api.ErrName}, {"+", api.ErrKind},
	{"(", api.ErrName}, {"sel", api.ErrKind}, {"a", api.ErrName}, {"1", api.ErrName}, {"b", api.ErrName}, {")", api.ErrForm},
	{"(", api.ErrName}, {"at", api.ErrKind}, {"t", api.ErrName}, {"1", api.ErrName}, {")", api.ErrForm},
	{")", api.ErrForm}, {")", api.ErrForm}, {")", api.ErrForm},
}

// stepsText writes the first n words.
func stepsText(n int) string {
	var out strings.Builder
	for _, x := range steps[:n] {
		out.WriteString(x.word + " ")
	}
	return out.String()
}

func TestParseOfAWordThatFitsNowhere(t *testing.T) {
	if _, err := lang.Parse(stepsText(len(steps))); err != api.OK {
		t.Fatalf("the whole text: %d", err)
	}
	for i, x := range steps {
		for _, other := range []string{"Zap", "fn", "-1", "07", "4294967296", "?", "<<<"} {
			if other == x.word {
				continue
			}
			wantError(t, stepsText(i)+other, x.other)
			wantError(t, stepsText(i)+other+" "+stepsText(len(steps))[len(stepsText(i)):], x.other)
		}
	}
	wantError(t, stepsText(len(steps))+"Zap", api.ErrForm)
}

func TestParseOfTextsThatEndTooSoon(t *testing.T) {
	for i := range steps {
		wantError(t, stepsText(i), api.ErrEnd)
		wantError(t, strings.TrimSpace(stepsText(i)), api.ErrEnd)
	}
	wantError(t, "", api.ErrEnd)
	wantError(t, " \n \n", api.ErrEnd)
}

func TestParseOfBracketsThatDoNotFit(t *testing.T) {
	for _, c := range []struct {
		s    string
		want api.Errno
	}{
		{")", api.ErrForm},
		{"()", api.ErrForm},
		{"(fn)", api.ErrForm},
		{"(fn ())", api.ErrForm},
		{"(fn () () ())", api.ErrKind},
		{"(fn () () (())", api.ErrKind},
		{"(fn () ()))", api.ErrForm},
		{"(fn () ())(", api.ErrForm},
		{"(fn () ()) (fn () ())", api.ErrForm},
		{"(fn (()) ())", api.ErrForm},
		{"(fn ((pub)) ())", api.ErrName},
		{"(fn ((pub (a))) ())", api.ErrName},
		{"(fn ((pub a (b))) ())", api.ErrForm},
		{"(fn ((pub a 1)) ())", api.ErrForm},
		{"(fn () (()))", api.ErrForm},
		{"(fn () ((pub t)))", api.ErrForm},
		{"(fn () ((pub t (1))))", api.ErrForm},
		{"(fn () ((pub t 1 1)))", api.ErrForm},
		{"(fn () () (let))", api.ErrForm},
		{"(fn () () (let (pub) x 1))", api.ErrForm},
		{"(fn () () (let pub))", api.ErrName},
		{"(fn () () (let pub (x) 1))", api.ErrName},
		{"(fn () () (let pub x))", api.ErrName},
		{"(fn () () (let pub x 1 2))", api.ErrForm},
		{"(fn () () (let pub x 1 (+ 1 2)))", api.ErrForm},
		{"(fn () () (set))", api.ErrName},
		{"(fn () () (set sec x 1))", api.ErrName},
		{"(fn () () (set x))", api.ErrName},
		{"(fn () () (set x 1 2))", api.ErrForm},
		{"(fn () () (put t))", api.ErrName},
		{"(fn () () (put t 1))", api.ErrName},
		{"(fn () () (put t 1 2 3))", api.ErrForm},
		{"(fn () () (if))", api.ErrName},
		{"(fn () () (if ()))", api.ErrKind},
		{"(fn () () (if 1))", api.ErrForm},
		{"(fn () () (if 1 ()))", api.ErrForm},
		{"(fn () () (if 1 () () ()))", api.ErrForm},
		{"(fn () () (if 1 () () 1))", api.ErrForm},
		{"(fn () () (if 1 (ret 1) ()))", api.ErrForm},
		{"(fn () () (if 1 () (ret 1)))", api.ErrForm},
		{"(fn () () (if 1 (()) ()))", api.ErrKind},
		{"(fn () () (for))", api.ErrName},
		{"(fn () () (for i))", api.ErrForm},
		{"(fn () () (for i (2)))", api.ErrForm},
		{"(fn () () (for i 2 3))", api.ErrForm},
		{"(fn () () (for i 2 ((ret 1))))", api.ErrKind},
		{"(fn () () (ret))", api.ErrName},
		{"(fn () () (ret 1 2))", api.ErrForm},
		{"(fn () () (ret ()))", api.ErrKind},
		{"(fn () () (ret ((+ 1 2))))", api.ErrKind},
		{"(fn () () (ret (+)))", api.ErrName},
		{"(fn () () (ret (+ 1)))", api.ErrName},
		{"(fn () () (ret (+ 1 2 3)))", api.ErrForm},
		{"(fn () () (ret (sel 1 2)))", api.ErrName},
		{"(fn () () (ret (sel 1 2 3 4)))", api.ErrForm},
		{"(fn () () (ret (at)))", api.ErrName},
		{"(fn () () (ret (at t)))", api.ErrName},
		{"(fn () () (ret (at (+ 1 2) 2)))", api.ErrName},
		{"(fn () () (ret (at 1 2)))", api.ErrName},
		{"(fn () () (ret (at t 2 3)))", api.ErrForm},
	} {
		wantError(t, c.s, c.want)
	}
}

func TestParseOfKindsThatThereAreNot(t *testing.T) {
	for _, k := range []string{"zap", "fn", "pub", "sec", "sel", "at", "+", "=", "1", "Let", "lets", "le", ")", "("} {
		wantError(t, "(fn () () ("+k+" x 1))", api.ErrKind)
	}
	for _, k := range []string{"zap", "fn", "pub", "let", "set", "put", "if", "for", "ret", "a", "1", "==", "<=", "!", "<<<", "+-", "+1", "-1", "**", "Sel", "sels", ")", "("} {
		wantError(t, "(fn () () (ret ("+k+" 1 2)))", api.ErrKind)
	}
}

func TestParseOfNumbers(t *testing.T) {
	for n, s := range []string{"0", "1", "2", "3", "4", "5", "6", "7", "8"} {
		wantParse(t, "(fn () () (for i "+s+"))", api.Fn{Body: []api.Stmt{{Kind: api.StFor, Name: "i", N: n}}})
		if n > 0 {
			wantParse(t, "(fn () ((pub t "+s+")))", api.Fn{Arrays: []api.Var{{Name: "t", Size: n}}})
		}
	}
	wantError(t, "(fn () ((pub t 0)))", api.ErrRange)
	for _, s := range []string{"9", "10", "16", "256", "4294967295"} {
		wantError(t, "(fn () ((pub t "+s+")))", api.ErrRange)
		wantError(t, "(fn () () (for i "+s+"))", api.ErrRange)
	}
	for _, s := range []string{"00", "01", "08", "-0", "-1", "+1", "1x", "x", "i", "0x1", "1.0", "1e0", "1_0", "sec", "\uff11", "4294967296", "18446744073709551617", strings.Repeat("9", 400)} {
		wantError(t, "(fn () ((pub t "+s+")))", api.ErrForm)
		wantError(t, "(fn () () (for i "+s+"))", api.ErrForm)
	}
}

func TestParseOfExpressionsThatAreNone(t *testing.T) {
	for _, n := range []int{0, 1, 9, 10, 1 << 31, api.MaxWord} {
		s := "(fn () () (ret " + lang.Expr(num(n)) + "))"
		wantParse(t, s, api.Fn{Body: []api.Stmt{ret(num(n))}})
	}
	for _, s := range []string{"00", "07", "-1", "+1", "4294967296", "18446744073709551616", "1a", "a1", "abcdefg", "A", "if", "at", "sel", "fn", "+", "?", "\xff"} {
		wantError(t, "(fn () () (ret "+s+"))", api.ErrName)
		wantError(t, "(fn () () (ret (+ 1 "+s+")))", api.ErrName)
	}
}

func TestParseTellsTheFirstError(t *testing.T) {
	for _, c := range []struct {
		s    string
		want api.Errno
	}{
		{"(fn ((pub A)) ((pub t 9)))", api.ErrName},
		{"(fn () ((pub t 9)) (zap))", api.ErrRange},
		{"(fn () ((pub t x)) (zap))", api.ErrForm},
		{"(fn () ((pub T 9)))", api.ErrName},
		{"(fn () ((zap T 9)))", api.ErrForm},
		{"(fn () ((pub t 9", api.ErrRange},
		{"(fn () () (zap", api.ErrKind},
		{"(fn () () (let zap X", api.ErrForm},
		{"(fn () () (for I 9", api.ErrName},
		{"(fn () () (for i 9 (zap)))", api.ErrRange},
		{"(fn () () (ret (zap X)))", api.ErrKind},
		{"(fn () () (ret X))) zap", api.ErrName},
	} {
		wantError(t, c.s, c.want)
	}
}

func TestParseOfWhatIsTooDeep(t *testing.T) {
	sums := func(n int, inner string) string {
		return "(fn () () (ret " + strings.Repeat("(+ 1 ", n) + inner
	}
	loops := func(n int, inner string) string {
		return "(fn () () " + strings.Repeat("(for i 1 ", n) + inner
	}
	wantFine(t, sums(7, "2"+strings.Repeat(")", 9)))
	wantError(t, sums(8, "2"+strings.Repeat(")", 10)), api.ErrDeep)
	wantFine(t, loops(8, "(for i 1)"+strings.Repeat(")", 9)))
	wantError(t, loops(9, "(for i 1)"+strings.Repeat(")", 10)), api.ErrDeep)
	wantFine(t, loops(7, "(ret 1)"+strings.Repeat(")", 8)))
	wantError(t, loops(8, "(ret 1)"+strings.Repeat(")", 9)), api.ErrDeep)
	wantFine(t, loops(9, strings.Repeat(")", 10))) // nothing is in the last one
	for _, s := range []string{"(let sec x 1)", "(set x 1)", "(put t 1 2)", "(if 1 () ())", "(ret 1)"} {
		wantFine(t, loops(7, s+strings.Repeat(")", 8)))
		wantError(t, loops(8, s+strings.Repeat(")", 9)), api.ErrDeep)
	}
	for _, s := range []string{"(sel 1 2 3)", "(at t 1)", "(= 1 2)"} {
		wantFine(t, loops(6, "(ret "+s+")"+strings.Repeat(")", 7)))
		wantError(t, loops(7, "(ret "+s+")"+strings.Repeat(")", 8)), api.ErrDeep)
	}
	// What is in Then, and in Else, has the statement around it.
	ifs := func(n int, head, tail, inner string) string {
		return "(fn () () " + strings.Repeat("(if 1 "+head, n) + inner + strings.Repeat(tail, n) + ")"
	}
	for _, c := range [][2]string{{"(", ") ())"}, {"() (", "))"}} {
		wantFine(t, ifs(8, c[0], c[1], ""))
		wantFine(t, ifs(8, c[0], c[1], "(for i 0)"))
		wantError(t, ifs(8, c[0], c[1], "(ret 1)"), api.ErrDeep)
		wantError(t, ifs(9, c[0], c[1], ""), api.ErrDeep)
	}
}

func TestHowDeepIsLookedAtAheadOfWords(t *testing.T) {
	sums := "(fn () () (ret " + strings.Repeat("(+ ", 8)
	for _, s := range []string{"", "1", "X", "(", "(zap", ")", "if", "(sel"} {
		wantError(t, sums+s, api.ErrDeep)
	}
	loops := "(fn () () " + strings.Repeat("(for i 1 ", 9)
	for _, s := range []string{"(", "(zap", "()", "(for", "(ret X)"} {
		wantError(t, loops+s, api.ErrDeep)
	}
	// Where no statement begins, none is too deep.
	wantError(t, loops, api.ErrEnd)
	wantError(t, loops+"zap", api.ErrForm)
	// An error ahead of it counts.
	wantError(t, "(fn () () (ret "+strings.Repeat("(+ 1 ", 7)+"(at 1 2)", api.ErrName)
	wantError(t, "(fn () () "+strings.Repeat("(for i 1 ", 8)+"(set 1 2)", api.ErrName)
	wantError(t, "(fn () () "+strings.Repeat("(for i 1 ", 8)+"(zap 1 2)", api.ErrKind)
}

func TestParseOfTextsThatAreTooLong(t *testing.T) {
	pad := func(s string, n int) string { return s + strings.Repeat(" ", n-len(s)) }
	wantFine(t, pad(whole, 1200))
	wantError(t, pad(whole, 1201), api.ErrMuch)
	wantError(t, pad("", 1200), api.ErrEnd)
	wantError(t, pad("", 1201), api.ErrMuch)
	wantError(t, pad("zap", 1201), api.ErrMuch)
	wantError(t, strings.Repeat("(", 1<<20), api.ErrMuch)
	full := "(fn () ()" + strings.Repeat("(ret a)", 170)
	wantFine(t, full+")")
	wantError(t, full+"(ret a))", api.ErrMuch)
}

func TestWrite(t *testing.T) {
	if got := lang.Print(wholeFn()); got != whole {
		t.Errorf("Print = %q; want %q", got, whole)
	}
	if got := lang.Print(api.Fn{}); got != "(fn () ())" {
		t.Errorf("Print of nothing = %q", got)
	}
	wantStmts := []string{
		"(let sec x (+ a 7))", "(let pub y 0)", "(set x (sel b x 4294967295))", "(put t (& a 3) (at t 1))",
		"(if x ((set x 1) (put t 0 b)) ((for i 8 (for j 0))))", "(if a () ())", "(ret (^ x (at u y)))",
	}
	for i, x := range wholeFn().Body {
		if got := lang.Stmt(x); got != wantStmts[i] {
			t.Errorf("Stmt = %q; want %q", got, wantStmts[i])
		}
	}
	wantExpr(t, num(0), "0")
	wantExpr(t, num(api.MaxWord), "4294967295")
	wantExpr(t, name("abc"), "abc")
	wantExpr(t, two(api.OpShl, num(1), two(api.OpShr, name("a"), num(2))), "(<< 1 (>> a 2))")
	wantExpr(t, at("t", at("u", num(1))), "(at t (at u 1))")
	wantExpr(t, api.Expr{Kind: api.ExSel, Args: []api.Expr{name("a"), num(1), at("t", num(2))}}, "(sel a 1 (at t 2))")
}

func TestWriteWhatThereIsNot(t *testing.T) {
	for _, k := range []int{-1 << 63, -1, 0, 6, 7, 1<<32 + 1, 1<<63 - 1} {
		wantExpr(t, api.Expr{Kind: k, N: 1, Name: "a", Args: []api.Expr{num(1), num(2), num(3)}}, "?")
	}
	for _, k := range []int{-1 << 63, -1, 0, 7, 8, 1<<32 + 1, 1<<63 - 1} {
		s := api.Stmt{Kind: k, N: 1, Name: "a", Args: []api.Expr{num(1), num(2)}, Then: []api.Stmt{ret(num(1))}}
		if got := lang.Stmt(s); got != "?" {
			t.Errorf("Stmt of kind %d = %q", k, got)
		}
	}
	for _, op := range []int{-1 << 63, -1, 0, api.OpSel, api.OpConst, api.OpBack, 1<<32 + 1, 1<<63 - 1} {
		wantExpr(t, two(op, num(1), num(2)), "?")
		wantExpr(t, two(api.OpAdd, num(1), two(op, num(1), num(2))), "(+ 1 ?)")
	}
	f := api.Fn{Body: []api.Stmt{{}, {Kind: api.StIf, Args: []api.Expr{{}}, Then: []api.Stmt{{Kind: 9}}, Else: []api.Stmt{{}, {}}}}}
	if got := lang.Print(f); got != "(fn () () ? (if ? (?) (? ?)))" {
		t.Errorf("Print = %q", got)
	}
}

// Fields that a kind has not mean nothing, and expressions that are missing are of no kind.
func TestWriteOnlyWhatAKindHas(t *testing.T) {
	full := []api.Expr{num(1), num(2), num(3), num(4)}
	stmts := []api.Stmt{ret(num(5))}
	for k, want := range map[int][2]string{
		api.StLet: {"(let sec a 1)", "(let pub a ?)"},
		api.StSet: {"(set a 1)", "(set a ?)"},
		api.StPut: {"(put a 1 2)", "(put a ? ?)"},
		api.StIf:  {"(if 1 ((ret 5)) ((ret 5)))", "(if ? () ())"},
		api.StFor: {"(for a 7 (ret 5))", "(for a 0)"},
		api.StRet: {"(ret 1)", "(ret ?)"},
	} {
		if got := lang.Stmt(api.Stmt{Kind: k, N: 7, Name: "a", Secret: true, Args: full, Then: stmts, Else: stmts}); got != want[0] {
			t.Errorf("Stmt = %q; want %q", got, want[0])
		}
		if got := lang.Stmt(api.Stmt{Kind: k, Name: "a"}); got != want[1] {
			t.Errorf("Stmt = %q; want %q", got, want[1])
		}
	}
	for k, want := range map[int][2]string{
		api.ExNum:  {"7", "7"},
		api.ExName: {"a", "a"},
		api.ExTwo:  {"(>> 1 2)", "(>> ? ?)"},
		api.ExSel:  {"(sel 1 2 3)", "(sel ? ? ?)"},
		api.ExAt:   {"(at a 1)", "(at a ?)"},
	} {
		wantExpr(t, api.Expr{Kind: k, N: 7, Name: "a", Args: full}, want[0])
		wantExpr(t, api.Expr{Kind: k, N: 7, Name: "a", Args: []api.Expr{}}, want[1])
	}
	f := api.Fn{Params: []api.Var{{Name: "a", Size: 5}}, Arrays: []api.Var{{Name: "t"}}}
	if got := lang.Print(f); got != "(fn ((pub a)) ((pub t 0)))" {
		t.Errorf("Print = %q", got)
	}
}

func TestWriteOfDeepPrograms(t *testing.T) {
	const deep = 1 << 16
	e, s := num(1), api.Stmt{Kind: api.StFor, Name: "i"}
	for range deep {
		e = two(api.OpAdd, num(2), e)
		s = api.Stmt{Kind: api.StFor, Name: "i", N: 1, Then: []api.Stmt{s}}
	}
	wantExpr(t, e, strings.Repeat("(+ 2 ", deep)+"1"+strings.Repeat(")", deep))
	if got := lang.Stmt(s); got != strings.Repeat("(for i 1 ", deep)+"(for i 0)"+strings.Repeat(")", deep) {
		t.Errorf("Stmt of a deep one has %d bytes", len(got))
	}
}

func TestWriteOnlyReads(t *testing.T) {
	f := wholeFn()
	f.Params = append(make([]api.Var, 0, 9), f.Params...)
	f.Body = append(make([]api.Stmt, 0, 99), f.Body...)
	lang.Print(f)
	if !reflect.DeepEqual(f, wholeFn()) {
		t.Error("Print changed what it was handed")
	}
	if got := f.Body[:8][7]; !reflect.DeepEqual(got, api.Stmt{}) {
		t.Errorf("Print wrote behind the list: %v", got)
	}
}

func TestParsedListsShareNothing(t *testing.T) {
	f, _ := lang.Parse(whole)
	_ = append(f.Params, api.Var{Name: "q"})
	_ = append(f.Arrays, api.Var{Name: "q"})
	spoil(f.Body)
	if !reflect.DeepEqual(f, wholeFn()) {
		t.Error("what was written behind one list is in another one")
	}
	f.Body[0].Name = "q"
	f.Body[0].Args[0].Args[0].Name = "q"
	wantParse(t, whole, wholeFn())
}

// spoil writes into the spare room behind all lists.
func spoil(l []api.Stmt) {
	_ = append(l, api.Stmt{Kind: 9})
	for _, x := range l {
		spoil(x.Then)
		spoil(x.Else)
		spoilExprs(x.Args)
	}
}

func spoilExprs(l []api.Expr) {
	_ = append(l, api.Expr{Kind: 9})
	for _, x := range l {
		spoilExprs(x.Args)
	}
}

func num(n int) api.Expr { return api.Expr{Kind: api.ExNum, N: n} }

func name(s string) api.Expr { return api.Expr{Kind: api.ExName, Name: s} }

func two(op int, a, b api.Expr) api.Expr {
	return api.Expr{Kind: api.ExTwo, N: op, Args: []api.Expr{a, b}}
}

func at(s string, e api.Expr) api.Expr {
	return api.Expr{Kind: api.ExAt, Name: s, Args: []api.Expr{e}}
}

func ret(e api.Expr) api.Stmt { return api.Stmt{Kind: api.StRet, Args: []api.Expr{e}} }

func wantParse(t *testing.T, s string, want api.Fn) {
	t.Helper()
	got, err := lang.Parse(s)
	if err != api.OK || !sameFn(got, want) {
		t.Errorf("Parse(%q) = %+v, %d; want %+v, OK", s, got, err, want)
	}
}

func wantFine(t *testing.T, s string) {
	t.Helper()
	if _, err := lang.Parse(s); err != api.OK {
		t.Errorf("Parse(%.80q) tells %d; want OK", s, err)
	}
}

func wantError(t *testing.T, s string, want api.Errno) {
	t.Helper()
	if got, err := lang.Parse(s); err != want || got.Params != nil || got.Arrays != nil || got.Body != nil {
		t.Errorf("Parse(%.200q) = %+v, %d; want nothing, %d", s, got, err, want)
	}
}

func wantExpr(t *testing.T, e api.Expr, want string) {
	t.Helper()
	if got := lang.Expr(e); got != want {
		t.Errorf("Expr = %.80q; want %.80q", got, want)
	}
}
