package tests

import (
	"math"
	"regexp"
	"slices"
	"strings"
	"testing"

	"loop.example/g01543/impl"
)

// Each test here belongs to promise 3: NumEnd, StrEnd and NameEnd return the
// end of a token that satisfies TokenOk (for NameEnd, of a word). Those about
// OpAt belong to promise 2: every operator is recognized from its spelling.

// Each pattern is the document's description of one token, written once more.
const (
	numPattern  = `(?:[0-9]+(?:\.[0-9]*)?|\.[0-9]+)(?:[eE][+-]?[0-9]+)?`
	strPattern  = `"(?:[^"\\\n]|\\[^\n])*"`
	erePattern  = `/(?:[^/\\\n]|\\[^\n])+/`
	wordPattern = `[A-Za-z_][A-Za-z_0-9]*`
)

// scanner is one of the functions of chapter 4 that return an end, with the
// pattern of what it scans.
type scanner struct {
	name    string
	end     func(s string, at int) int
	pattern *regexp.Regexp
	kind    int
}

func newScanner(name string, end func(s string, at int) int, pattern string, kind int) scanner {
	r := regexp.MustCompile(`\A` + pattern)
	r.Longest()
	return scanner{name, end, r, kind}
}

func numScanner() scanner {
	return newScanner("NumEnd", impl.NumEnd, numPattern, impl.TkNum)
}

func strScanner() scanner {
	return newScanner("StrEnd", impl.StrEnd, strPattern, impl.TkStr)
}

func ereScanner() scanner {
	return newScanner("EreEnd", impl.EreEnd, erePattern, impl.TkEre)
}

func nameScanner() scanner {
	return newScanner("NameEnd", impl.NameEnd, wordPattern, impl.TkName)
}

func allScanners() []scanner {
	return []scanner{numScanner(), strScanner(), ereScanner(), nameScanner()}
}

// want is the end by the pattern.
func (x scanner) want(s string, at int) int {
	if at < 0 || at > len(s) {
		return -1
	}
	place := x.pattern.FindStringIndex(s[at:])
	if place == nil {
		return -1
	}
	return at + place[1]
}

func (x scanner) check(t *testing.T, s string, at int) {
	t.Helper()
	end := x.end(s, at)
	if want := x.want(s, at); end != want {
		t.Errorf("%s(%.60q, %d) = %d, want %d", x.name, s, at, end, want)
		return
	}
	if end == -1 {
		return
	}
	text := s[at:end]
	if ok := impl.TokenOk(impl.Token{Kind: x.kind, Text: text, At: at}); ok != (x.kind != impl.TkName || impl.NameOk(text)) {
		t.Errorf("%s(%.60q, %d) = %d, the end of %.60q: TokenOk is %v", x.name, s, at, end, text, ok)
	}
}

// checkAll checks s at each offset inside and at some outside.
func (x scanner) checkAll(t *testing.T, s string) {
	t.Helper()
	for at := -2; at <= len(s)+2; at++ {
		x.check(t, s, at)
	}
}

// endCase is an example: the end of the token at an offset.
type endCase struct {
	s        string
	at, want int
}

func checkEnds(t *testing.T, x scanner, cases []endCase) {
	t.Helper()
	for _, c := range cases {
		if got := x.end(c.s, c.at); got != c.want {
			t.Errorf("%s(%q, %d) = %d, want %d", x.name, c.s, c.at, got, c.want)
		}
		x.checkAll(t, c.s)
	}
}

func TestP3NumEndExamples(t *testing.T) {
	checkEnds(t, numScanner(), []endCase{
		{"0", 0, 1}, {"7", 0, 1}, {"12x", 0, 2}, {"007", 0, 3}, {"007", 2, 3}, {"1234567890", 0, 10},
		{"x12", 0, -1}, {"x12", 1, 3}, {"x12", 2, 3}, {"1 2", 0, 1}, {"1 2", 1, -1}, {"1_0", 0, 1}, {"0x1f", 0, 1},
		{"-1", 0, -1}, {"+1", 0, -1}, {"-1", 1, 2}, {" 1", 0, -1}, {"\n1", 0, -1}, {"#1", 0, -1}, {"\"1\"", 0, -1},
		{"/", 0, -1}, {":", 0, -1}, {"1/2", 0, 1}, {"1:2", 0, 1}, {"\xd9\xa1", 0, -1}, {"1\xd9\xa1", 0, 1}, {"1\x00", 0, 1}, {"\xb2", 0, -1},
	})
}

func TestP3NumEndOfPeriods(t *testing.T) {
	checkEnds(t, numScanner(), []endCase{
		{".", 0, -1}, {"..", 0, -1}, {"..5", 0, -1}, {"..5", 1, 3}, {". 5", 0, -1}, {".x", 0, -1}, {"x.", 1, -1},
		{".5", 0, 2}, {".5", 1, 2}, {".05x", 0, 3}, {".5.", 0, 2}, {".5.5", 0, 2}, {".5.5", 2, 4},
		{"7.", 0, 2}, {"7. ", 0, 2}, {"7..", 0, 2}, {"7..5", 0, 2}, {"7.x", 0, 2}, {"7.", 1, -1},
		{"3.5.1", 0, 3}, {"3.5.1", 1, 3}, {"3.5.1", 3, 5}, {"3.25", 0, 4}, {"1.2.3.4", 0, 3}, {"1,2", 0, 1},
	})
}

func TestP3NumEndOfExponents(t *testing.T) {
	var cases []endCase
	for _, e := range []string{"e", "E"} {
		for _, sign := range []string{"", "+", "-"} {
			for _, start := range []string{"1", "12", "1.", ".5", "3.5"} {
				n := len(start)
				whole := n + len(e+sign)
				cases = append(cases,
					endCase{start + e + sign, 0, n},
					endCase{start + e + sign + "7", 0, whole + 1},
					endCase{start + e + sign + "07x", 0, whole + 2},
					endCase{start + e + sign + "x", 0, n},
					endCase{start + e + sign + " 7", 0, n},
					endCase{start + e + sign + ".7", 0, n},
					endCase{start + e + sign + "7.8", 0, whole + 1},
					endCase{start + e + sign + "7" + e + "8", 0, whole + 1},
					endCase{start + e + sign + "7" + e, 0, whole + 1},
					endCase{start + e + sign + "-+7", 0, n},
					endCase{start + e + sign + "\n7", 0, n},
					endCase{"x" + start + e + sign, 1, n + 1})
			}
			cases = append(cases, endCase{e + sign + "7", 0, -1}, endCase{"." + e + sign + "7", 0, -1}, endCase{e, 0, -1}, endCase{"1" + e + sign, 1, -1})
		}
	}
	checkEnds(t, numScanner(), append(cases,
		endCase{"1e3", 0, 3}, endCase{"1e+", 0, 1}, endCase{"2E-4+", 0, 4}, endCase{"1ee3", 0, 1}, endCase{"1e--3", 0, 1}, endCase{"1e+-3", 0, 1}, endCase{"1eE3", 0, 1}, endCase{"1else", 0, 1}))
}

func TestP3StrEndExamples(t *testing.T) {
	checkEnds(t, strScanner(), []endCase{
		{`""`, 0, 2}, {`"a"`, 0, 3}, {`"a" "b"`, 0, 3}, {`"a" "b"`, 4, 7}, {`"a" "b"`, 2, 5}, {`"""`, 0, 2}, {`""""`, 0, 2}, {`x"a"`, 0, -1}, {`x"a"`, 1, 4},
		{`"a\"b" c`, 0, 6}, {`"\""`, 0, 4}, {`"\\"`, 0, 4}, {`"\\""`, 0, 4}, {`"\\\""`, 0, 6}, {`"\n"`, 0, 4}, {`"\a\b"c`, 0, 6}, {`\"a"`, 1, 4}, {`\"a"`, 0, -1},
		{`"#"`, 0, 3}, {`"/"`, 0, 3}, {"\"\t \"", 0, 4}, {"\"\x00\xff\"", 0, 4}, {"\"\r\"", 0, 3}, {"\"\xc3\xa4\"", 0, 4}, {"\"\\\xff\"", 0, 4}, {"\"\\\x00\"", 0, 4},
		{`'a'`, 0, -1}, {`/a/`, 0, -1}, {`a`, 0, -1}, {" \"a\"", 0, -1},
	})
}

func TestP3StrEndOfNoLiteral(t *testing.T) {
	checkEnds(t, strScanner(), []endCase{
		{`"`, 0, -1}, {`"a`, 0, -1}, {`"a'`, 0, -1}, {`"a" "`, 4, -1}, {`"a"`, 2, -1}, {`"a/`, 0, -1},
		{"\"\n\"", 0, -1}, {"\"a\n\"", 0, -1}, {"\"a\nb\"", 0, -1}, {"\"\\a\n\"", 0, -1}, {"\"a\n", 0, -1}, {"\"a\"\n", 0, 3}, {"\"a\"\n\"", 0, 3},
		{"\"a\n\"b\"", 3, 6},
		{`"\`, 0, -1}, {`"a\`, 0, -1}, {`"a\\`, 0, -1}, {`"a\"`, 0, -1}, {`"\"`, 0, -1}, {`"a\\\"`, 0, -1},
		{"\"\\\n\"", 0, -1}, {"\"a\\\nb\"", 0, -1}, {"\"a\\\n", 0, -1}, {"\"a\\\\\nb\"", 0, -1}, {"\"a\\\n\"b\"", 4, 7},
	})
}

func TestP3EreEndExamples(t *testing.T) {
	checkEnds(t, ereScanner(), []endCase{
		{`/a/`, 0, 3}, {`/=/`, 0, 3}, {`/a/x`, 0, 3}, {`/a/ /b/`, 0, 3}, {`/a/ /b/`, 4, 7}, {`/a/ /b/`, 2, 5}, {`x/a/`, 0, -1}, {`x/a/`, 1, 4}, {`/a//`, 0, 3}, {`/a//b/`, 2, -1}, {`/a//b/`, 3, 6},
		{`/a\/b/x`, 0, 6}, {`/\//`, 0, 4}, {`/\\/`, 0, 4}, {`/\\//`, 0, 4}, {`/[/]/`, 0, 3}, {`/[\/]/`, 0, 6}, {`/"/`, 0, 3}, {`/ /`, 0, 3}, {`/#/`, 0, 3}, {"/\x00\xff/", 0, 4}, {"/\\\xff/", 0, 4},
		{`"a"`, 0, -1}, {`a`, 0, -1}, {` /a/`, 0, -1},
	})
}

func TestP3EreEndOfNoLiteral(t *testing.T) {
	checkEnds(t, ereScanner(), []endCase{
		{`//`, 0, -1}, {`///`, 0, -1}, {`///`, 1, -1}, {`//a/`, 0, -1}, {`//a/`, 1, 4}, {`x//`, 1, -1}, {`// `, 0, -1}, {`////`, 2, -1},
		{`/`, 0, -1}, {`/a`, 0, -1}, {`/a"`, 0, -1}, {`/a/`, 2, -1}, {`/=1`, 0, -1},
		{"/\n/", 0, -1}, {"/a\n/", 0, -1}, {"/a\nb/", 0, -1}, {"/a/\n", 0, 3}, {"/a\n/b/", 3, 6},
		{`/\`, 0, -1}, {`/a\`, 0, -1}, {`/\/`, 0, -1}, {`/a\/`, 0, -1}, {`/a\\\/`, 0, -1},
		{"/\\\n/", 0, -1}, {"/a\\\nb/", 0, -1}, {"/a\\\n", 0, -1}, {"/a\\\n/b/", 4, 7},
	})
}

func TestP3NameEndExamples(t *testing.T) {
	checkEnds(t, nameScanner(), []endCase{
		{"a", 0, 1}, {"Z", 0, 1}, {"_", 0, 1}, {"a b", 0, 1}, {"a(", 0, 1}, {"ab1 c", 0, 3}, {"ab1 c", 1, 3}, {"ab1 c", 2, -1}, {"ab1 c", 3, -1}, {"ab1 c", 4, 5},
		{"1", 0, -1}, {"1a", 0, -1}, {"1a", 1, 2}, {"11ab", 0, -1}, {"11ab", 2, 4}, {"a1b2_", 0, 5}, {"_0", 0, 2}, {"__", 0, 2}, {"x9.5", 0, 2},
		{"if", 0, 2}, {"function f", 0, 8}, {"length(x)", 0, 6}, {"BEGIN{", 0, 5}, {"printfx", 0, 7},
		{"abcdefghijkl", 0, 12}, {"abcdefghijklm", 0, 13}, {"abcdefghijklm", 1, 13}, {"____________________ ", 0, 20},
		{" a", 0, -1}, {"\na", 0, -1}, {"$a", 0, -1}, {"-a", 0, -1}, {"@a", 0, -1}, {"`a", 0, -1}, {"[a", 0, -1}, {"{a", 0, -1}, {"\xe4", 0, -1}, {"\xc3\xa4a", 0, -1}, {"a\xc3\xa4", 0, 1}, {"a\x00b", 0, 1}, {"\x00a", 0, -1},
		{"a\\\nb", 0, 1}, {"a#b", 0, 1},
	})
}

func TestP3EndsOfShortTexts(t *testing.T) {
	for _, x := range []struct {
		scanner
		alphabet string
	}{
		{numScanner(), "07.eE+-x"},
		{strScanner(), "\"\\\na/"},
		{ereScanner(), "/\\\na\""},
		{nameScanner(), "aZ_09 .e"},
	} {
		for _, s := range wordsOver(x.alphabet, 5) {
			x.checkAll(t, s)
		}
	}
}

func TestP3EndsWithEachByte(t *testing.T) {
	for _, x := range allScanners() {
		for _, s := range wordsOver(everyByte(), 1) {
			for _, text := range []string{s, "1" + s, "1." + s, "1e" + s, "1e+" + s, "." + s, `"` + s + `"`, `"\` + s + `"`, "/" + s + "/", "/\\" + s + "/", "a" + s, s + "a", s + "1", s + `"a"`, s + "/a/"} {
				x.checkAll(t, text)
			}
		}
		for _, s := range wordsOver(everyByte(), 2) {
			x.check(t, s, 0)
			x.check(t, s, 1)
		}
	}
}

func TestP3EndsInLargerTexts(t *testing.T) {
	program := "BEGIN { x = 1.5e+3; y[.5, 7.] = \"a\\\"b\" \"c\\\\\" } # 1 \"2\" /3/\n" +
		"$1 ~ /a\\/b[c]/ && length > 10e { print x1 _y2, 3.5.1 \"unclosed }\n" +
		"function f(a, b) { return a / b // c\\\n + 2E-4 - 1e- }\n/x\\\n/"
	for _, x := range allScanners() {
		x.checkAll(t, program)
		x.checkAll(t, strings.ReplaceAll(program, "\n", "\r\n"))
	}
}

func TestP3EndsOfLongTokens(t *testing.T) {
	const n = 1 << 20
	for _, c := range []struct {
		scanner
		text, after string
	}{
		{numScanner(), strings.Repeat("9", n), "x"},
		{numScanner(), strings.Repeat("0", n) + "." + strings.Repeat("5", n), ".1"},
		{numScanner(), "1e-" + strings.Repeat("8", n), "e1"},
		{strScanner(), `"` + strings.Repeat(`\"`, n) + `"`, `"`},
		{strScanner(), `"` + strings.Repeat(`a`, n) + `"`, "\n"},
		{ereScanner(), `/` + strings.Repeat(`\/`, n) + `/`, "/"},
		{nameScanner(), strings.Repeat("a1", n), "."},
	} {
		for _, s := range []string{c.text, c.text + c.after} {
			if got := c.end(s, 0); got != len(c.text) {
				t.Errorf("%s of a long text is %d, want %d", c.name, got, len(c.text))
			}
		}
	}
	if impl.StrEnd(`"`+strings.Repeat("a", n), 0) != -1 || impl.EreEnd("/"+strings.Repeat(`\\`, n)+`\/`, 0) != -1 {
		t.Error("a long literal that is not closed")
	}
}

func farOffsets() []int {
	return []int{-1, -2, -3, -100, -1 << 32, math.MinInt, math.MinInt + 1, math.MinInt + 2, math.MaxInt - 2, math.MaxInt - 1, math.MaxInt, 1 << 32, 1000}
}

func TestP3OffsetsOutsideOfTheText(t *testing.T) {
	for _, s := range []string{"", "1", "1.5e3", ".", `""`, `"a"`, "/a/", "//", "abc", "_", "a1", "1e", `"\`, "/"} {
		for _, at := range append(farOffsets(), len(s), len(s)+1, len(s)+2) {
			for _, x := range allScanners() {
				if got := x.end(s, at); got != -1 {
					t.Errorf("%s(%q, %d) = %d, want -1", x.name, s, at, got)
				}
			}
		}
	}
	for _, x := range allScanners() {
		if got := x.end("", 0); got != -1 {
			t.Errorf("%s of the empty string is %d", x.name, got)
		}
	}
}

// opTable has the kind of each operator and punctuation.
func opTable() map[string]int {
	m := map[string]int{}
	for i, s := range strings.Fields(operatorsWanted) {
		m[s] = 30 + i
	}
	return m
}

// longestOp looks the two bytes at an offset up, then the one.
func longestOp(table map[string]int, s string, at int) (int, int) {
	for n := 2; n >= 1; n-- {
		if at >= 0 && at <= len(s) && n <= len(s)-at && table[s[at:at+n]] != 0 {
			return table[s[at:at+n]], n
		}
	}
	return 0, 0
}

func checkOp(t *testing.T, table map[string]int, s string, at int) {
	t.Helper()
	kind, n := longestOp(table, s, at)
	if k, length := impl.OpAt(s, at); k != kind || length != n {
		t.Errorf("OpAt(%q, %d) = %d, %d, want %d, %d", s, at, k, length, kind, n)
	}
}

func TestP2OperatorsAreRecognizedFromTheirSpelling(t *testing.T) {
	count := 0
	for _, kind := range someKinds() {
		s := impl.SpellOf(kind)
		want, length := 0, 0
		if kind >= impl.TkLBrace && kind <= impl.TkDollar {
			want, length = kind, len(s)
			count++
		}
		if k, n := impl.OpAt(s, 0); k != want || n != length {
			t.Errorf("OpAt(SpellOf(%d)) = OpAt(%q, 0) = %d, %d", kind, s, k, n)
		}
		for _, around := range []string{" ", "\n", "x", "1", "\"", "\\", "@", "#", "\x00", "\xff"} {
			if k, n := impl.OpAt(around+s+around, 1); s != "" && (k != want || n != length) {
				t.Errorf("OpAt(%q, 1) = %d, %d", around+s+around, k, n)
			}
		}
	}
	if count < 39 {
		t.Error(count, "operators")
	}
}

func TestP2OpAtExamples(t *testing.T) {
	for _, c := range []struct {
		s               string
		at, kind, width int
	}{
		{"a>>=", 1, impl.TkAppend, 2},
		{"a>>=", 2, impl.TkGe, 2},
		{"a>>=", 3, impl.TkAssign, 1},
		{"a>>=", 0, 0, 0},
		{"a>>=", 4, 0, 0},
		{">>>", 0, impl.TkAppend, 2},
		{"> >", 0, impl.TkGt, 1},
		{"=", 0, impl.TkAssign, 1},
		{"==", 0, impl.TkEq, 2},
		{"===", 0, impl.TkEq, 2},
		{"=>", 0, impl.TkAssign, 1},
		{"!", 0, impl.TkNot, 1},
		{"!!", 0, impl.TkNot, 1},
		{"!~", 0, impl.TkNoMatch, 2},
		{"!=", 0, impl.TkNe, 2},
		{"!==", 0, impl.TkNe, 2},
		{"~!", 0, impl.TkMatch, 1},
		{"~=", 0, impl.TkMatch, 1},
		{"+++", 0, impl.TkIncr, 2},
		{"++=", 0, impl.TkIncr, 2},
		{"+=+", 0, impl.TkAddA, 2},
		{"+-", 0, impl.TkAdd, 1},
		{"-->", 0, impl.TkDecr, 2},
		{"-=", 0, impl.TkSubA, 2},
		{"-1", 0, impl.TkSub, 1},
		{"**", 0, impl.TkMul, 1},
		{"*=", 0, impl.TkMulA, 2},
		{"//", 0, impl.TkDiv, 1},
		{"/=/", 0, impl.TkDivA, 2},
		{"%=", 0, impl.TkModA, 2},
		{"^=", 0, impl.TkPowA, 2},
		{"^^", 0, impl.TkPow, 1},
		{"|", 0, impl.TkPipe, 1},
		{"||", 0, impl.TkOr, 2},
		{"|||", 0, impl.TkOr, 2},
		{"| |", 0, impl.TkPipe, 1},
		{"&&", 0, impl.TkAnd, 2},
		{"&", 0, 0, 0},
		{"& &", 0, 0, 0},
		{"&=", 0, 0, 0},
		{"<=", 0, impl.TkLe, 2},
		{"<<", 0, impl.TkLt, 1},
		{"<", 0, impl.TkLt, 1},
		{"((", 0, impl.TkLParen, 1},
		{"{}", 1, impl.TkRBrace, 1},
		{"[]", 0, impl.TkLBrack, 1},
		{"$$", 0, impl.TkDollar, 1},
		{"?:", 0, impl.TkQuest, 1},
		{"?:", 1, impl.TkColon, 1},
		{";;", 0, impl.TkSemi, 1},
		{",", 0, impl.TkComma, 1},
		{"", 0, 0, 0},
		{"@", 0, 0, 0},
		{"in", 0, 0, 0},
		{"\n", 0, 0, 0},
		{" +", 0, 0, 0},
		{"#+", 0, 0, 0},
		{".", 0, 0, 0},
		{"\\", 0, 0, 0},
		{"'", 0, 0, 0},
		{"\"", 0, 0, 0},
		{"`", 0, 0, 0},
		{"\xff", 0, 0, 0},
	} {
		if k, n := impl.OpAt(c.s, c.at); k != c.kind || n != c.width {
			t.Errorf("OpAt(%q, %d) = %d, %d, want %d, %d", c.s, c.at, k, n, c.kind, c.width)
		}
	}
}

func TestP2OpAtIsTheLongestOperator(t *testing.T) {
	table := opTable()
	if len(table) != 39 {
		t.Fatal(len(table), "operators")
	}
	for _, s := range wordsOver(everyByte(), 2) {
		checkOp(t, table, s, 0)
		checkOp(t, table, s, 1)
	}
	for _, s := range wordsOver("=+-|&!~><^", 4) {
		for at := -1; at <= len(s)+1; at++ {
			checkOp(t, table, s, at)
		}
	}
}

func TestP2OpAtOutsideOfTheText(t *testing.T) {
	for _, s := range []string{"", "+", "++", ">>=", "a", "{}"} {
		for _, at := range append(farOffsets(), len(s), len(s)+1, len(s)+2) {
			if k, n := impl.OpAt(s, at); k != 0 || n != 0 {
				t.Errorf("OpAt(%q, %d) = %d, %d", s, at, k, n)
			}
		}
	}
}

// tokenCheck tells valid tokens by the document's lists and patterns.
type tokenCheck struct {
	patterns  map[int]*regexp.Regexp
	spellings map[int]string
	words     wordCheck
}

func newTokenCheck() tokenCheck {
	whole := func(pattern string) *regexp.Regexp { return regexp.MustCompile(`\A(?:` + pattern + `)\z`) }
	patterns := map[int]*regexp.Regexp{
		2: whole(`#[^\n]*`), 3: whole(numPattern), 4: whole(strPattern), 5: whole(erePattern),
	}
	return tokenCheck{patterns, spellingsWanted(), newWordCheck()}
}

func (c tokenCheck) want(kind int, s string) bool {
	switch {
	case c.patterns[kind] != nil:
		return c.patterns[kind].MatchString(s)
	case kind == 6 || kind == 7:
		return impl.NameShape(s) && c.words.keywords[s] == 0 && !c.words.builtins[s]
	case kind == 8:
		return c.words.builtins[s]
	}
	return s != "" && c.spellings[kind] == s
}

func (c tokenCheck) check(t *testing.T, kind int, s string) {
	t.Helper()
	if got := impl.TokenOk(impl.Token{Kind: kind, Text: s}); got != c.want(kind, s) {
		t.Errorf("TokenOk of kind %d, %.60q is %v", kind, s, got)
	}
}

// validTexts has at least one valid text of each kind.
func validTexts() map[int][]string {
	m := map[int][]string{
		2: {"#", "##", "# a comment", "#\t\"/\\", "#\r", "#\x00\xff", "#x\\"},
		3: {"0", "12", "3.5", ".5", "7.", "1e3", "1E+3", "2.5e-10", ".5E0", "7.e1", "00"},
		4: {`""`, `"a"`, `"a\"b"`, `"\\"`, `"\n"`, "\"\t\xff\"", `"#"`, `"//"`},
		5: {"/a/", "/=/", `/a\/b/`, `/\\/`, `/"/`, "/ /", "/[a-z]+$/"},
		6: {"x", "_", "a1_", "NF", "abcdefghijkl", "func", "getline", "begin"},
		7: {"f", "_f1", "abcdefghijkl", "If"},
		8: strings.Fields(builtinsWanted),
	}
	for kind, s := range spellingsWanted() {
		m[kind] = []string{s}
	}
	return m
}

// changedTexts returns the text with a byte more and with a byte less, at each
// place.
func changedTexts(s string) []string {
	var l []string
	for i := range len(s) + 1 {
		for b := range 256 {
			l = append(l, s[:i]+string([]byte{byte(b)})+s[i:])
		}
		if i < len(s) {
			l = append(l, s[:i]+s[i+1:])
		}
	}
	return l
}

func TestP3TokenOkOfEachKind(t *testing.T) {
	texts := validTexts()
	if len(texts) != 64 {
		t.Fatal(len(texts), "kinds")
	}
	for kind, l := range texts {
		for _, s := range l {
			for _, at := range []int{0, 7, -1, math.MaxInt} {
				if !impl.TokenOk(impl.Token{Kind: kind, Text: s, At: at}) {
					t.Errorf("TokenOk of kind %d, %q at %d is false", kind, s, at)
				}
			}
		}
	}
}

func TestP3TokenOkOfAByteMoreOrLess(t *testing.T) {
	c := newTokenCheck()
	for kind, l := range validTexts() {
		for _, s := range l {
			for _, changed := range changedTexts(s) {
				c.check(t, kind, changed)
			}
		}
	}
}

func TestP3TokenOkOfOtherKinds(t *testing.T) {
	c := newTokenCheck()
	for _, l := range validTexts() {
		for _, s := range l {
			for _, kind := range someKinds() {
				c.check(t, kind, s)
			}
		}
	}
}

func TestP3TokenOkOfEmptyTexts(t *testing.T) {
	for _, kind := range someKinds() {
		if impl.TokenOk(impl.Token{Kind: kind}) {
			t.Errorf("TokenOk of kind %d without a text", kind)
		}
	}
}

func TestP3TokenOkOfShortTexts(t *testing.T) {
	c := newTokenCheck()
	kinds := []int{-1, 0, 1, 2, 3, 4, 5, 6, 7, 8, 9, 13, 24, 27, 29, 47, 56, 62, 69}
	for _, s := range append(wordsOver("#1.e+\"/\\\na>in", 3), wordsOver(everyByte(), 1)...) {
		for _, kind := range kinds {
			c.check(t, kind, s)
		}
	}
}

func TestP3TokenOkInvalid(t *testing.T) {
	for _, c := range []impl.Token{
		{Kind: impl.TkComment, Text: "#\n"}, {Kind: impl.TkComment, Text: "# a\nb"}, {Kind: impl.TkComment, Text: "#\\\n"}, {Kind: impl.TkComment, Text: "x"}, {Kind: impl.TkComment, Text: " #"}, {Kind: impl.TkComment, Text: "\n#"},
		{Kind: impl.TkNum, Text: "1x"}, {Kind: impl.TkNum, Text: "."}, {Kind: impl.TkNum, Text: "1e"}, {Kind: impl.TkNum, Text: "1e+"}, {Kind: impl.TkNum, Text: "1E-"}, {Kind: impl.TkNum, Text: "-1"}, {Kind: impl.TkNum, Text: "1.2.3"}, {Kind: impl.TkNum, Text: " 1"}, {Kind: impl.TkNum, Text: "1 "}, {Kind: impl.TkNum, Text: "0x1"},
		{Kind: impl.TkStr, Text: `"`}, {Kind: impl.TkStr, Text: `"a`}, {Kind: impl.TkStr, Text: `"a"b`}, {Kind: impl.TkStr, Text: `"a""b"`}, {Kind: impl.TkStr, Text: `"\"`}, {Kind: impl.TkStr, Text: "\"a\n\""}, {Kind: impl.TkStr, Text: "\"a\\\nb\""}, {Kind: impl.TkStr, Text: "/a/"}, {Kind: impl.TkStr, Text: "a"},
		{Kind: impl.TkEre, Text: "//"}, {Kind: impl.TkEre, Text: "/"}, {Kind: impl.TkEre, Text: "/a"}, {Kind: impl.TkEre, Text: "/a/b"}, {Kind: impl.TkEre, Text: "/a//"}, {Kind: impl.TkEre, Text: `/\/`}, {Kind: impl.TkEre, Text: "/a\n/"}, {Kind: impl.TkEre, Text: "/\\\n/"}, {Kind: impl.TkEre, Text: `"a"`},
		{Kind: impl.TkName, Text: "1a"}, {Kind: impl.TkName, Text: "if"}, {Kind: impl.TkName, Text: "length"}, {Kind: impl.TkName, Text: "abcdefghijklm"}, {Kind: impl.TkName, Text: "a b"},
		{Kind: impl.TkFunc, Text: "f("}, {Kind: impl.TkFunc, Text: "while"}, {Kind: impl.TkFunc, Text: "substr"}, {Kind: impl.TkFunc, Text: "abcdefghijklm"},
		{Kind: impl.TkBuiltin, Text: "len"}, {Kind: impl.TkBuiltin, Text: "Length"}, {Kind: impl.TkBuiltin, Text: "length("}, {Kind: impl.TkBuiltin, Text: "print"},
		{Kind: impl.TkNewline, Text: "\r\n"}, {Kind: impl.TkNewline, Text: "\n\n"}, {Kind: impl.TkNewline, Text: ";"},
		{Kind: impl.TkIf, Text: "else"}, {Kind: impl.TkIf, Text: "IF"}, {Kind: impl.TkIncr, Text: "+"}, {Kind: impl.TkAdd, Text: "++"}, {Kind: impl.TkPow, Text: "**"}, {Kind: impl.TkPow, Text: " ^"},
		{Kind: 0, Text: "x"}, {Kind: 9, Text: "x"}, {Kind: 27, Text: "printf"}, {Kind: 69, Text: "$"}, {Kind: -1, Text: "1"}, {Kind: math.MinInt, Text: "\n"}, {Kind: math.MaxInt, Text: "#"},
	} {
		if impl.TokenOk(c) {
			t.Errorf("TokenOk of kind %d, %q is true", c.Kind, c.Text)
		}
	}
}

func TestP3NamesEndAtWords(t *testing.T) {
	c := newWordCheck()
	for _, s := range append(strings.Fields(keywordsWanted+" "+builtinsWanted), "x", "_1", "abcdefghijkl", "abcdefghijklm", "ifs") {
		for _, after := range []string{"", " ", "(", "\n", ".", "\xff"} {
			if end := impl.NameEnd(s+after, 0); end != len(s) {
				t.Errorf("NameEnd(%q, 0) = %d", s+after, end)
			}
		}
		kinds := []int{}
		for _, kind := range []int{impl.TkName, impl.TkFunc, impl.TkBuiltin, c.keywords[s]} {
			if impl.TokenOk(impl.Token{Kind: kind, Text: s}) {
				kinds = append(kinds, kind)
			}
		}
		want := []int{impl.TkName, impl.TkFunc}
		switch {
		case len(s) > impl.MaxName:
			want = []int{}
		case c.keywords[s] != 0:
			want = []int{c.keywords[s]}
		case c.builtins[s]:
			want = []int{impl.TkBuiltin}
		}
		if !slices.Equal(kinds, want) {
			t.Errorf("%q is a token of the kinds %v, want %v", s, kinds, want)
		}
	}
}
