package tests

import (
	"math"
	"strings"
	"testing"

	"loop.example/g01543/impl"
)

// Each test here belongs to promise 2, as far as chapter 3 goes: keywords,
// builtins and names are disjoint, and a keyword is recognized from its
// spelling.

// keywordsWanted and operatorsWanted begin at the kinds 10 and 30.
const (
	keywordsWanted  = "BEGIN END function if else while for do break continue next exit return delete in print printf"
	operatorsWanted = "{ } ( ) [ ] , ; += -= *= /= %= ^= || && !~ == <= >= != ++ -- >> = + - * / % ^ ! > < | ? : ~ $"
	builtinsWanted  = "atan2 close cos exp gsub index int length log match rand sin split sprintf sqrt srand sub substr system tolower toupper"
)

// spellingsWanted returns the spelling of each kind that has one.
func spellingsWanted() map[int]string {
	m := map[int]string{1: "\n"}
	for i, s := range strings.Fields(keywordsWanted) {
		m[10+i] = s
	}
	for i, s := range strings.Fields(operatorsWanted) {
		m[30+i] = s
	}
	return m
}

// keywordKinds returns the kind of each keyword.
func keywordKinds() map[string]int {
	m := map[string]int{}
	for i, s := range strings.Fields(keywordsWanted) {
		m[s] = 10 + i
	}
	return m
}

// builtinSet has the names of the builtin functions as keys.
func builtinSet() map[string]bool {
	m := map[string]bool{}
	for _, s := range strings.Fields(builtinsWanted) {
		m[s] = true
	}
	return m
}

// someKinds returns all kinds and many numbers around and far from them.
func someKinds() []int {
	l := nearPowers()
	for k := -1000; k <= 1000; k++ {
		l = append(l, k)
	}
	for k := range 70 {
		l = append(l, k+1<<8, k-1<<8, k+1<<16, k-1<<16, k+1<<32, k-1<<32, math.MinInt+k, math.MaxInt-k)
	}
	return l
}

// wordCheck compares a word with the lists of the document.
type wordCheck struct {
	keywords map[string]int
	builtins map[string]bool
}

func newWordCheck() wordCheck {
	return wordCheck{keywordKinds(), builtinSet()}
}

func (c wordCheck) check(t *testing.T, s string) {
	t.Helper()
	keyword, builtin := c.keywords[s], c.builtins[s]
	if got := impl.KeywordOf(s); got != keyword {
		t.Errorf("KeywordOf(%q) = %d, want %d", s, got, keyword)
	}
	if got := impl.IsBuiltin(s); got != builtin {
		t.Errorf("IsBuiltin(%q) = %v", s, got)
	}
	if got := impl.NameOk(s); got != (impl.NameShape(s) && keyword == 0 && !builtin) {
		t.Errorf("NameOk(%q) = %v", s, got)
	}
}

func TestP2KindNumbers(t *testing.T) {
	kinds := []int{
		impl.TkNewline, impl.TkComment, impl.TkNum, impl.TkStr, impl.TkEre, impl.TkName, impl.TkFunc, impl.TkBuiltin,
		impl.TkBegin, impl.TkEnd, impl.TkFunction, impl.TkIf, impl.TkElse, impl.TkWhile, impl.TkFor, impl.TkDo, impl.TkBreak, impl.TkContinue,
		impl.TkNext, impl.TkExit, impl.TkReturn, impl.TkDelete, impl.TkIn, impl.TkPrint, impl.TkPrintf,
		impl.TkLBrace, impl.TkRBrace, impl.TkLParen, impl.TkRParen, impl.TkLBrack, impl.TkRBrack, impl.TkComma, impl.TkSemi,
		impl.TkAddA, impl.TkSubA, impl.TkMulA, impl.TkDivA, impl.TkModA, impl.TkPowA,
		impl.TkOr, impl.TkAnd, impl.TkNoMatch, impl.TkEq, impl.TkLe, impl.TkGe, impl.TkNe, impl.TkIncr, impl.TkDecr, impl.TkAppend,
		impl.TkAssign, impl.TkAdd, impl.TkSub, impl.TkMul, impl.TkDiv, impl.TkMod, impl.TkPow, impl.TkNot, impl.TkGt, impl.TkLt,
		impl.TkPipe, impl.TkQuest, impl.TkColon, impl.TkMatch, impl.TkDollar,
	}
	var want []int
	for k := 1; k <= 68; k++ {
		if k != 9 && (k < 27 || k > 29) {
			want = append(want, k)
		}
	}
	if len(kinds) != len(want) {
		t.Fatal(len(kinds), "kinds, want", len(want))
	}
	for i, k := range kinds {
		if k != want[i] {
			t.Errorf("kind %d is %d, want %d", i, k, want[i])
		}
	}
}

func TestP2Token(t *testing.T) {
	type shape = struct {
		Kind int
		Text string
		At   int
	}
	if shape(impl.Token{Kind: impl.TkName, Text: "x", At: 7}) != (shape{6, "x", 7}) || (impl.Token{}) != (impl.Token{Kind: 0, Text: "", At: 0}) {
		t.Error("the fields of Token")
	}
}

func TestP2SpellOfExamples(t *testing.T) {
	for _, c := range []struct {
		kind int
		want string
	}{
		{impl.TkNewline, "\n"},
		{impl.TkComment, ""},
		{impl.TkNum, ""},
		{impl.TkStr, ""},
		{impl.TkEre, ""},
		{impl.TkName, ""},
		{impl.TkFunc, ""},
		{impl.TkBuiltin, ""},
		{impl.TkBegin, "BEGIN"},
		{impl.TkEnd, "END"},
		{impl.TkFunction, "function"},
		{impl.TkContinue, "continue"},
		{impl.TkIn, "in"},
		{impl.TkPrint, "print"},
		{impl.TkPrintf, "printf"},
		{impl.TkLBrace, "{"},
		{impl.TkSemi, ";"},
		{impl.TkAddA, "+="},
		{impl.TkPowA, "^="},
		{impl.TkOr, "||"},
		{impl.TkNoMatch, "!~"},
		{impl.TkNe, "!="},
		{impl.TkAppend, ">>"},
		{impl.TkAssign, "="},
		{impl.TkNot, "!"},
		{impl.TkPipe, "|"},
		{impl.TkMatch, "~"},
		{impl.TkDollar, "$"},
		{0, ""},
		{9, ""},
		{27, ""},
		{28, ""},
		{29, ""},
		{69, ""},
		{70, ""},
		{-1, ""},
		{-10, ""},
		{math.MaxInt, ""},
		{math.MinInt, ""},
	} {
		if got := impl.SpellOf(c.kind); got != c.want {
			t.Errorf("SpellOf(%d) = %q, want %q", c.kind, got, c.want)
		}
	}
}

func TestP2SpellOfEachNumber(t *testing.T) {
	want := spellingsWanted()
	if len(want) != 1+17+39 {
		t.Fatal(len(want), "kinds with a spelling")
	}
	for _, kind := range someKinds() {
		if got := impl.SpellOf(kind); got != want[kind] {
			t.Errorf("SpellOf(%d) = %q, want %q", kind, got, want[kind])
		}
	}
}

func TestP2SpellingsAreDistinct(t *testing.T) {
	kinds := map[string]int{}
	for kind := range 100 {
		s := impl.SpellOf(kind)
		if s == "" {
			continue
		}
		if other, found := kinds[s]; found {
			t.Errorf("%q is the spelling of %d and of %d", s, other, kind)
		}
		kinds[s] = kind
	}
}

func TestP2KeywordsAreRecognizedFromTheirSpelling(t *testing.T) {
	count := 0
	for _, kind := range someKinds() {
		s := impl.SpellOf(kind)
		want := 0
		if kind >= impl.TkBegin && kind <= impl.TkPrintf {
			want = kind
		}
		if got := impl.KeywordOf(s); got != want {
			t.Errorf("KeywordOf(SpellOf(%d)) = KeywordOf(%q) = %d, want %d", kind, s, got, want)
		}
	}
	for s, kind := range keywordKinds() {
		count++
		if got := impl.KeywordOf(s); got != kind || impl.SpellOf(got) != s {
			t.Errorf("KeywordOf(%q) = %d, whose spelling is %q", s, got, impl.SpellOf(got))
		}
		if impl.IsBuiltin(s) || impl.NameOk(s) || !impl.NameShape(s) {
			t.Errorf("the keyword %q: builtin %v, name %v, shape %v", s, impl.IsBuiltin(s), impl.NameOk(s), impl.NameShape(s))
		}
	}
	if count != 17 {
		t.Error(count, "keywords")
	}
}

func TestP2OperatorsAreNoWords(t *testing.T) {
	for _, s := range append(strings.Fields(operatorsWanted), "\n") {
		if impl.KeywordOf(s) != 0 || impl.IsBuiltin(s) || impl.NameOk(s) {
			t.Errorf("%q: keyword %d, builtin %v, name %v", s, impl.KeywordOf(s), impl.IsBuiltin(s), impl.NameOk(s))
		}
	}
}

func TestP2Builtins(t *testing.T) {
	builtins := strings.Fields(builtinsWanted)
	if len(builtins) != 21 {
		t.Fatal(len(builtins), "builtins")
	}
	for _, s := range builtins {
		if !impl.IsBuiltin(s) || impl.KeywordOf(s) != 0 || impl.NameOk(s) || !impl.NameShape(s) {
			t.Errorf("the builtin %q: builtin %v, keyword %d, name %v, shape %v", s, impl.IsBuiltin(s), impl.KeywordOf(s), impl.NameOk(s), impl.NameShape(s))
		}
	}
}

func TestP2NoKeywordAndNoBuiltin(t *testing.T) {
	for _, s := range []string{
		"", "x", "Begin", "begin", "BEGI", "BEGINN", "end", "End", "ENDS", "func", "functions", "Function", "FUNCTION", "IF", "If", "i", "iff", "elseif", "elif", "els",
		"While", "whil", "whiles", "For", "fo", "fore", "forin", "Do", "d", "dodo", "dowhile", "brake", "breaks", "BREAK", "continu", "continued", "Next", "nextfile", "nex",
		"exits", "exi", "Return", "returns", "retur", "Delete", "deleted", "IN", "In", "inn", "n", "Print", "prin", "prints", "printff", "printF", "sprint", "PRINTF", "getline",
		"len", "Length", "LENGTH", "lengths", "lengt", "atan", "atan22", "atan1", "Int", "integer", "subs", "substring", "gsubs", "splits", "printsplit", "sprintff", "toLower", "tolowe", "to", "upper", "sys",
		"NF", "_", "_if", "if_", "if0", "in1", "sin_", "cos2", "intlength", "ifelse", "BEGINEND",
	} {
		if impl.KeywordOf(s) != 0 || impl.IsBuiltin(s) {
			t.Errorf("%q: keyword %d, builtin %v", s, impl.KeywordOf(s), impl.IsBuiltin(s))
		}
		if got := impl.NameOk(s); got != (s != "") {
			t.Errorf("NameOk(%q) = %v", s, got)
		}
	}
}

func TestP2WordsWithOtherBytes(t *testing.T) {
	for _, s := range strings.Fields(keywordsWanted + " " + builtinsWanted + " x _a") {
		for _, w := range []string{s + " ", " " + s, s + "\t", s + "\n", "\n" + s, s + "\x00", "\x00" + s, s + "(", "$" + s, s + "\xff", "\xc3\xa4" + s, s + ";", s + "," + s, s + " " + s, "\"" + s + "\"", "#" + s} {
			if impl.KeywordOf(w) != 0 || impl.IsBuiltin(w) || impl.NameOk(w) {
				t.Errorf("%q: keyword %d, builtin %v, name %v", w, impl.KeywordOf(w), impl.IsBuiltin(w), impl.NameOk(w))
			}
		}
	}
}

func TestP2AlmostKeywords(t *testing.T) {
	c := newWordCheck()
	words := strings.Fields(keywordsWanted + " " + builtinsWanted)
	for _, s := range words {
		for _, w := range []string{s, strings.ToUpper(s), strings.ToLower(s), strings.ToUpper(s[:1]) + s[1:], s + s} {
			c.check(t, w)
		}
		for _, other := range words {
			for _, w := range []string{s + other, s + "_" + other, s + " " + other, s + "(" + other} {
				c.check(t, w)
			}
		}
		for i := range len(s) {
			c.check(t, s[:i])
			c.check(t, s[i:])
			c.check(t, s[:i]+s[i+1:])
			if i+2 <= len(s) {
				c.check(t, s[:i]+s[i+1:i+2]+s[i:i+1]+s[i+2:])
			}
		}
		for b := range 256 {
			for i := range len(s) + 1 {
				c.check(t, s[:i]+string([]byte{byte(b)})+s[i:])
				if i < len(s) {
					c.check(t, s[:i]+string([]byte{byte(b)})+s[i+1:])
				}
			}
		}
	}
}

func TestP2ShortWords(t *testing.T) {
	c := newWordCheck()
	for _, s := range wordsOver(everyByte(), 2) {
		c.check(t, s)
	}
	for _, s := range wordsOver(lettersWanted+digitsWanted, 3) {
		c.check(t, s)
	}
	for _, s := range wordsOver("abdefilnoprsx", 5) {
		c.check(t, s)
	}
}

func TestP2KeywordsBuiltinsAndNamesAreDisjoint(t *testing.T) {
	words := append(wordsOver("fINino_1", 4), strings.Fields(keywordsWanted+" "+builtinsWanted+" "+operatorsWanted)...)
	for _, s := range words {
		count := 0
		for _, is := range []bool{impl.KeywordOf(s) != 0, impl.IsBuiltin(s), impl.NameOk(s)} {
			if is {
				count++
			}
		}
		if impl.NameShape(s) != (count == 1) || count > 1 {
			t.Errorf("%q: keyword %d, builtin %v, name %v", s, impl.KeywordOf(s), impl.IsBuiltin(s), impl.NameOk(s))
		}
	}
}

func TestP2NameOkExamples(t *testing.T) {
	for _, s := range []string{"x", "X", "_", "_1", "x1", "NF", "begin", "If", "func", "getline", "abcdefghijkl", "functionname", "____________", "a12345678901"} {
		if !impl.NameOk(s) {
			t.Errorf("NameOk(%q) is false", s)
		}
	}
	for _, s := range []string{"", "1", "1x", "x y", "x-", "\xe4", "if", "BEGIN", "printf", "substr", "atan2", "abcdefghijklm", "functionnames", "_____________", strings.Repeat("function", 100)} {
		if impl.NameOk(s) {
			t.Errorf("NameOk(%q) is true", s)
		}
	}
}

func TestP2NameOkLengths(t *testing.T) {
	for n := range 300 {
		for _, s := range []string{strings.Repeat("n", n), ("if" + strings.Repeat("_", n))[:n], ("print" + strings.Repeat("9", n))[:n]} {
			want := n >= 1 && n <= impl.MaxName && s != "if" && s != "print"
			if got := impl.NameOk(s); got != want {
				t.Errorf("NameOk(%q) = %v", s, got)
			}
		}
	}
	if impl.KeywordOf(strings.Repeat("in", 1<<20)) != 0 || impl.IsBuiltin(strings.Repeat("sub", 1<<20)) || impl.NameOk(strings.Repeat("x", 1<<20)) {
		t.Error("a long word")
	}
}

func TestP2OperandsOfEachNumber(t *testing.T) {
	ends := map[int]bool{3: true, 4: true, 5: true, 6: true, 8: true, 33: true, 35: true, 51: true, 52: true}
	begins := map[int]bool{3: true, 4: true, 6: true, 7: true, 8: true, 32: true, 68: true}
	for _, kind := range someKinds() {
		if got := impl.EndsOperand(kind); got != ends[kind] {
			t.Errorf("EndsOperand(%d) = %v", kind, got)
		}
		if got := impl.BeginsOperand(kind); got != begins[kind] {
			t.Errorf("BeginsOperand(%d) = %v", kind, got)
		}
	}
}

func TestP2OperandExamples(t *testing.T) {
	for _, c := range []struct {
		kind         int
		ends, begins bool
	}{
		{impl.TkNum, true, true},
		{impl.TkStr, true, true},
		{impl.TkEre, true, false},
		{impl.TkName, true, true},
		{impl.TkFunc, false, true},
		{impl.TkBuiltin, true, true},
		{impl.TkLParen, false, true},
		{impl.TkRParen, true, false},
		{impl.TkLBrack, false, false},
		{impl.TkRBrack, true, false},
		{impl.TkIncr, true, false},
		{impl.TkDecr, true, false},
		{impl.TkDollar, false, true},
		{impl.TkNot, false, false},
		{impl.TkSub, false, false},
		{impl.TkNewline, false, false},
		{impl.TkComment, false, false},
		{impl.TkIn, false, false},
		{impl.TkRBrace, false, false},
		{0, false, false},
		{9, false, false},
		{-3, false, false},
	} {
		if impl.EndsOperand(c.kind) != c.ends || impl.BeginsOperand(c.kind) != c.begins {
			t.Errorf("%d: ends %v, begins %v", c.kind, impl.EndsOperand(c.kind), impl.BeginsOperand(c.kind))
		}
	}
}
