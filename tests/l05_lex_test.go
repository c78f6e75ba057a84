package tests

import (
	"math"
	"math/rand/v2"
	"regexp"
	"slices"
	"strconv"
	"strings"
	"testing"

	"loop.example/g01543/impl"
)

// Each test here belongs to promise 4: tokens that satisfy TokensOk, spelled by
// Spell in at most MaxText bytes, are read by Lex as themselves, and tokens lie
// in the text at their offsets.

const (
	maxTextWanted   = 3000
	maxTokensWanted = 3000
)

// lexCheck is the lexer of the document, written once more with patterns.
type lexCheck struct {
	gap, comment, num, str, ere, word *regexp.Regexp
	operators                         map[string]int
	words                             wordCheck
}

func newLexCheck() lexCheck {
	at := func(pattern string) *regexp.Regexp {
		r := regexp.MustCompile(`\A(?:` + pattern + `)`)
		r.Longest()
		return r
	}
	return lexCheck{
		gap: at(`(?:[ \t]|\\\n)*`), comment: at(`#[^\n]*`), num: at(numPattern), str: at(strPattern), ere: at(erePattern), word: at(wordPattern),
		operators: opTable(), words: newWordCheck(),
	}
}

// endsOperandWanted has the kinds after which a slash is a division.
func endsOperandWanted(kind int) bool {
	return slices.Contains([]int{3, 4, 5, 6, 8, 33, 35, 51, 52}, kind)
}

// wordKindWanted returns 0 for a word that is too long.
func (c lexCheck) wordKindWanted(word, rest string) int {
	switch {
	case len(word) > 12:
		return 0
	case c.words.keywords[word] != 0:
		return c.words.keywords[word]
	case c.words.builtins[word]:
		return 8
	case strings.HasPrefix(rest, "("):
		return 7
	}
	return 6
}

// next returns the kind and the text of the first token of rest.
func (c lexCheck) next(rest string, previous int) (int, string) {
	switch b := rest[0]; {
	case b == '\n':
		return 1, "\n"
	case b == '#':
		return 2, c.comment.FindString(rest)
	case b == '.' || b >= '0' && b <= '9':
		return 3, c.num.FindString(rest)
	case b == '"':
		return 4, c.str.FindString(rest)
	case b == '/' && !endsOperandWanted(previous):
		return 5, c.ere.FindString(rest)
	case c.word.MatchString(rest):
		word := c.word.FindString(rest)
		if kind := c.wordKindWanted(word, rest[len(word):]); kind != 0 {
			return kind, word
		}
		return 0, ""
	}
	kind, n := longestOp(c.operators, rest, 0)
	return kind, rest[:n]
}

func (c lexCheck) want(s string) ([]impl.Token, impl.Fault) {
	if len(s) > maxTextWanted {
		return nil, impl.Fault{Kind: 1}
	}
	var l []impl.Token
	previous := 0
	for at := 0; ; {
		at += len(c.gap.FindString(s[at:]))
		if at == len(s) {
			return l, impl.Fault{}
		}
		kind, text := c.next(s[at:], previous)
		if text == "" {
			return nil, impl.Fault{Kind: 2, At: at}
		}
		l = append(l, impl.Token{Kind: kind, Text: text, At: at})
		previous = kind
		at += len(text)
	}
}

func (c lexCheck) check(t *testing.T, s string) {
	t.Helper()
	l, f := impl.Lex(s)
	want, fault := c.want(s)
	if f != fault || !slices.Equal(l, want) {
		t.Errorf("Lex(%.80q) = %s, %v, want %s, %v", s, shown(l), f, shown(want), fault)
		return
	}
	if !impl.TokensOk(l) {
		t.Errorf("TokensOk of Lex(%.80q) is false", s)
	}
	checkPlaces(t, s, l)
	checkReadBack(t, l)
}

// checkPlaces checks that the tokens lie in s at their offsets, in order.
func checkPlaces(t *testing.T, s string, l []impl.Token) {
	t.Helper()
	end := 0
	for i, x := range l {
		if x.At < end || x.At+len(x.Text) > len(s) || s[x.At:x.At+len(x.Text)] != x.Text {
			t.Errorf("token %d of %.80q, %q, is not at %d", i, s, x.Text, x.At)
			return
		}
		end = x.At + len(x.Text)
	}
}

// checkReadBack checks the promise itself.
func checkReadBack(t *testing.T, l []impl.Token) {
	t.Helper()
	s := impl.Spell(l)
	back, f := impl.Lex(s)
	if len(s) > maxTextWanted {
		if len(back) != 0 || f != (impl.Fault{Kind: 1}) {
			t.Errorf("Lex of %d bytes: %v", len(s), f)
		}
		return
	}
	if f != (impl.Fault{}) || !sameWanted(l, back) || !impl.SameTokens(l, back) {
		t.Errorf("%s are spelled %.80q, read as %s, %v", shown(l), s, shown(back), f)
	}
	checkPlaces(t, s, back)
}

func sameWanted(a, b []impl.Token) bool {
	return slices.EqualFunc(a, b, func(x, y impl.Token) bool { return x.Kind == y.Kind && x.Text == y.Text })
}

// kindShown names the kinds that a text alone does not tell.
func kindShown(kind int) string {
	names := []string{"none", "newline", "comment", "num", "str", "ere", "name", "func", "builtin"}
	switch {
	case kind >= 0 && kind < len(names):
		return names[kind]
	case kind >= 10 && kind <= 26:
		return "key"
	case kind >= 30 && kind <= 68:
		return "op"
	}
	return strconv.Itoa(kind)
}

// shown is a list of tokens such as name:x@0 op:+@2.
func shown(l []impl.Token) string {
	var parts []string
	for _, x := range l {
		text := strings.ReplaceAll(x.Text, "\n", `\n`)
		parts = append(parts, kindShown(x.Kind)+":"+text+"@"+strconv.Itoa(x.At))
	}
	return strings.Join(parts, " ")
}

// lexCase is a text with its tokens as shown.
type lexCase struct{ s, want string }

func checkLex(t *testing.T, cases []lexCase) {
	t.Helper()
	c := newLexCheck()
	for _, x := range cases {
		l, f := impl.Lex(x.s)
		if got := shown(l); got != x.want || f != (impl.Fault{}) {
			t.Errorf("Lex(%q) = %s, %v, want %s", x.s, got, f, x.want)
		}
		c.check(t, x.s)
	}
}

// faultCase is a text with the offset at which no token starts.
type faultCase struct {
	s  string
	at int
}

func checkFaults(t *testing.T, cases []faultCase) {
	t.Helper()
	c := newLexCheck()
	for _, x := range cases {
		l, f := impl.Lex(x.s)
		if len(l) != 0 || f != (impl.Fault{Kind: impl.FtLex, At: x.at}) {
			t.Errorf("Lex(%q) = %s, %v, want a fault at %d", x.s, shown(l), f, x.at)
		}
		c.check(t, x.s)
	}
}

func TestP4Constants(t *testing.T) {
	if impl.MaxText != maxTextWanted || impl.MaxTokens != maxTokensWanted {
		t.Error("MaxText, MaxTokens:", impl.MaxText, impl.MaxTokens)
	}
	for want, kind := range []int{impl.FtNone, impl.FtLarge, impl.FtLex, impl.FtSyntax, impl.FtDeep} {
		if kind != want {
			t.Errorf("fault %d is %d", want, kind)
		}
	}
	type shape = struct{ Kind, At int }
	if shape(impl.Fault{Kind: impl.FtDeep, At: 7}) != (shape{4, 7}) {
		t.Error("the fields of Fault")
	}
}

func TestP4LexExamples(t *testing.T) {
	checkLex(t, []lexCase{
		{"", ""}, {" ", ""}, {" \t ", ""}, {"\n", `newline:\n@0`}, {"\n\n", `newline:\n@0 newline:\n@1`}, {" \n\t", `newline:\n@1`},
		{"x", "name:x@0"}, {" x ", "name:x@1"}, {"\tx\ty", "name:x@1 name:y@3"}, {"x\ny", `name:x@0 newline:\n@1 name:y@2`},
		{"BEGIN{x=1}", "key:BEGIN@0 op:{@5 name:x@6 op:=@7 num:1@8 op:}@9"},
		{"$1 ~ /a b/ { print $2 }", "op:$@0 num:1@1 op:~@3 ere:/a b/@5 op:{@11 key:print@13 op:$@19 num:2@20 op:}@22"},
		{`print "a b" "c\"d"`, `key:print@0 str:"a b"@6 str:"c\"d"@12`},
		{"a[i,j]in b", "name:a@0 op:[@1 name:i@2 op:,@3 name:j@4 op:]@5 key:in@6 name:b@9"},
		{"a+++b", "name:a@0 op:++@1 op:+@3 name:b@4"}, {"a- --b", "name:a@0 op:-@1 op:--@3 name:b@5"}, {"x>>=y", "name:x@0 op:>>@1 op:=@3 name:y@4"}, {"a<=b", "name:a@0 op:<=@1 name:b@3"},
		{"a!~b!=c", "name:a@0 op:!~@1 name:b@3 op:!=@4 name:c@6"}, {"a||b|c&&d", "name:a@0 op:||@1 name:b@3 op:|@4 name:c@5 op:&&@6 name:d@8"},
		{"a?b:c;", "name:a@0 op:?@1 name:b@2 op::@3 name:c@4 op:;@5"}, {"x^=y^z%=w%2*=3", "name:x@0 op:^=@1 name:y@3 op:^@4 name:z@5 op:%=@6 name:w@8 op:%@9 num:2@10 op:*=@11 num:3@13"},
	})
}

func TestP4LexOfEachSpelling(t *testing.T) {
	for kind, spelling := range spellingsWanted() {
		for _, around := range []string{"", " ", "\t", "\\\n"} {
			// The bracket is before / and /= too, which begin a regular expression elsewhere.
			s := "]" + around + spelling + around
			l, f := impl.Lex(s)
			want := impl.Token{Kind: kind, Text: spelling, At: 1 + len(around)}
			if f != (impl.Fault{}) || len(l) != 2 || l[1] != want {
				t.Errorf("Lex(%q) = %s, %v", s, shown(l), f)
			}
		}
	}
}

func TestP4LexOfWords(t *testing.T) {
	checkLex(t, []lexCase{
		{"f(x)", "func:f@0 op:(@1 name:x@2 op:)@3"}, {"f (x)", "name:f@0 op:(@2 name:x@3 op:)@4"}, {"f\t(", "name:f@0 op:(@2"}, {"f\n(", `name:f@0 newline:\n@1 op:(@2`}, {"f\\\n(", "name:f@0 op:(@3"},
		{"f[", "name:f@0 op:[@1"}, {"f)(", "name:f@0 op:)@1 op:(@2"}, {"f((", "func:f@0 op:(@1 op:(@2"}, {"f(g(", "func:f@0 op:(@1 func:g@2 op:(@3"}, {"f", "name:f@0"},
		{"if(x)", "key:if@0 op:(@2 name:x@3 op:)@4"}, {"if (", "key:if@0 op:(@3"}, {"in(", "key:in@0 op:(@2"}, {"print(", "key:print@0 op:(@5"}, {"ifx(", "func:ifx@0 op:(@3"}, {"If", "name:If@0"},
		{"length(", "builtin:length@0 op:(@6"}, {"length (", "builtin:length@0 op:(@7"}, {"length", "builtin:length@0"}, {"lengthy", "name:lengthy@0"}, {"function f(", "key:function@0 func:f@9 op:(@10"},
		{"printf", "key:printf@0"}, {"printff", "name:printff@0"}, {"begin", "name:begin@0"}, {"BEGIN END", "key:BEGIN@0 key:END@6"}, {"atan2(y,x)", "builtin:atan2@0 op:(@5 name:y@6 op:,@7 name:x@8 op:)@9"},
		{"_", "name:_@0"}, {"_1a(", "func:_1a@0 op:(@3"}, {"a1 b2", "name:a1@0 name:b2@3"}, {"func", "name:func@0"}, {"getline", "name:getline@0"},
	})
	for _, s := range strings.Fields(keywordsWanted + " " + builtinsWanted) {
		want := impl.KeywordOf(s)
		if impl.IsBuiltin(s) {
			want = impl.TkBuiltin
		}
		for _, after := range []string{"", " ", "(", " (", "[", "\n"} {
			if l, f := impl.Lex(s + after); f != (impl.Fault{}) || l[0] != (impl.Token{Kind: want, Text: s}) {
				t.Errorf("Lex(%q) = %s, %v", s+after, shown(l), f)
			}
		}
	}
}

func TestP4LexOfLongWords(t *testing.T) {
	checkLex(t, []lexCase{
		{"abcdefghijkl", "name:abcdefghijkl@0"}, {"abcdefghijkl(", "func:abcdefghijkl@0 op:(@12"}, {"1abcdefghijkl", "num:1@0 name:abcdefghijkl@1"}, {"abcdefghijkl mnopqrstuvwx", "name:abcdefghijkl@0 name:mnopqrstuvwx@13"},
		{"a12345678901.5", "name:a12345678901@0 num:.5@12"}, {"____________", "name:____________@0"},
	})
	checkFaults(t, []faultCase{
		{"abcdefghijklm", 0}, {"abcdefghijklm(", 0}, {"x abcdefghijklm", 2}, {"x=1abcdefghijklm", 3}, {"a123456789012", 0}, {"_____________ ", 0}, {"functionfunction", 0}, {"lengthlengthlength", 0},
		{"\n\nabcdefghijklm\n@", 2}, {"abcdefghijkl abcdefghijklm", 13},
	})
}

func TestP4LexOfSlashes(t *testing.T) {
	checkLex(t, []lexCase{
		{"a /b/ c", "name:a@0 op:/@2 name:b@3 op:/@4 name:c@6"}, {"a/b", "name:a@0 op:/@1 name:b@2"}, {"a/=b", "name:a@0 op:/=@1 name:b@3"}, {"a /=/b/", "name:a@0 op:/=@2 ere:/b/@4"},
		{"1/2/3", "num:1@0 op:/@1 num:2@2 op:/@3 num:3@4"}, {`"s"/t/`, `str:"s"@0 op:/@3 name:t@4 op:/@5`}, {"/a/ /b/", "ere:/a/@0 op:/@4 name:b@5 op:/@6"},
		{"length/x/", "builtin:length@0 op:/@6 name:x@7 op:/@8"}, {"(a)/b/", "op:(@0 name:a@1 op:)@2 op:/@3 name:b@4 op:/@5"}, {"a[1]/b/", "name:a@0 op:[@1 num:1@2 op:]@3 op:/@4 name:b@5 op:/@6"},
		{"a++/b/", "name:a@0 op:++@1 op:/@3 name:b@4 op:/@5"}, {"a--/b/", "name:a@0 op:--@1 op:/@3 name:b@4 op:/@5"}, {"++/b/", "op:++@0 op:/@2 name:b@3 op:/@4"},
		{"/a/", "ere:/a/@0"}, {" \t/=/", "ere:/=/@2"}, {`/a\/b/`, `ere:/a\/b/@0`}, {"\\\n/a/", "ere:/a/@2"}, {"a\\\n/b/", "name:a@0 op:/@3 name:b@4 op:/@5"},
		{"x=/a/", "name:x@0 op:=@1 ere:/a/@2"}, {"x~/a/", "name:x@0 op:~@1 ere:/a/@2"}, {"!/a/", "op:!@0 ere:/a/@1"}, {"(/a/)", "op:(@0 ere:/a/@1 op:)@4"}, {"{/a/", "op:{@0 ere:/a/@1"}, {"}/a/", "op:}@0 ere:/a/@1"}, {"[/a/", "op:[@0 ere:/a/@1"}, {"$/a/", "op:$@0 ere:/a/@1"},
		{"a//b/", "name:a@0 op:/@1 ere:/b/@2"}, {"a/=/b/", "name:a@0 op:/=@1 ere:/b/@3"}, {"f(/a/)", "func:f@0 op:(@1 ere:/a/@2 op:)@5"},
		{"print/a/", "key:print@0 ere:/a/@5"}, {"return /a/", "key:return@0 ere:/a/@7"}, {"x in /a/", "name:x@0 key:in@2 ere:/a/@5"}, {"BEGIN/a/", "key:BEGIN@0 ere:/a/@5"},
		{"a\n/b/", `name:a@0 newline:\n@1 ere:/b/@2`}, {"a # c\n/b/", `name:a@0 comment:# c@2 newline:\n@5 ere:/b/@6`}, {"1;/b/", "num:1@0 op:;@1 ere:/b/@2"},
	})
	checkFaults(t, []faultCase{
		{"/", 0}, {"//", 0}, {"/a", 0}, {"/a\n/", 0}, {`/a\/`, 0}, {"= /x", 2}, {"x=//", 2}, {"x=//y/", 2}, {"a//", 2}, {"a///", 2}, {"a/=/", 3}, {"a /=/", 4}, {"print /", 6}, {"\n/=", 1}, {"(/=", 1}, {"/a/=/b", 4}, {"# c\n/", 4}, {"/\\\n/", 0},
	})
}

func TestP4LexOfASlashAfterEachToken(t *testing.T) {
	for kind, texts := range validTexts() {
		for _, text := range texts {
			before, last := text, kind
			switch kind {
			case impl.TkComment:
				before, last = text+"\n", impl.TkNewline
			case impl.TkFunc:
				before, last = text+"(", impl.TkLParen
			case impl.TkDiv, impl.TkDivA:
				before = "x" + text
			}
			l, f := impl.Lex(before + " /a/")
			want := []int{last, impl.TkEre}
			if endsOperandWanted(last) {
				want = []int{last, impl.TkDiv, impl.TkName, impl.TkDiv}
			}
			if f != (impl.Fault{}) || len(l) < len(want) || !slices.Equal(kindsOf(l[len(l)-len(want):]), want) {
				t.Errorf("Lex(%q) = %s, %v", before+" /a/", shown(l), f)
			}
		}
	}
}

func kindsOf(l []impl.Token) []int {
	var kinds []int
	for _, x := range l {
		kinds = append(kinds, x.Kind)
	}
	return kinds
}

func TestP4LexOfBackslashes(t *testing.T) {
	checkLex(t, []lexCase{
		{"\\\n", ""}, {"\\\n\\\n", ""}, {" \\\n\t", ""}, {"a\\\nb", "name:a@0 name:b@3"}, {"a \\\n b", "name:a@0 name:b@5"}, {"a\\\n\nb", `name:a@0 newline:\n@3 name:b@4`}, {"\\\nx", "name:x@2"}, {"x\\\n", "name:x@0"},
		{"+\\\n+", "op:+@0 op:+@3"}, {"1\\\n.5", "num:1@0 num:.5@3"}, {"x=1\\\n+2", "name:x@0 op:=@1 num:1@2 op:+@5 num:2@6"}, {"\\\n# c", "comment:# c@2"}, {"# c\\\nx", `comment:# c\@0 newline:\n@4 name:x@5`}, {`# \`, `comment:# \@0`},
		{`"\\"`, `str:"\\"@0`}, {`/\//`, `ere:/\//@0`},
	})
	checkFaults(t, []faultCase{
		{`\`, 0}, {`a\`, 1}, {"a\\ \n", 1}, {"a\\\\\n", 1}, {"a\\\r\n", 1}, {"\\\n\\", 2}, {"\\\n\\ \n", 2}, {" \\", 1}, {"\"a\\\nb\"", 0}, {"if\\\n\\f", 4}, {"x\\n", 1},
	})
	for b := range 256 {
		after := string([]byte{byte(b)})
		for _, s := range []string{"", "x", "x ", "1", "+", "\n", "\\\n", "/a/"} {
			l, f := impl.Lex(s + "\\" + after + "y")
			if b != '\n' && f != (impl.Fault{Kind: impl.FtLex, At: len(s)}) || b == '\n' && f != (impl.Fault{}) {
				t.Errorf("Lex(%q) = %s, %v", s+"\\"+after+"y", shown(l), f)
			}
		}
	}
}

func TestP4LexOfComments(t *testing.T) {
	checkLex(t, []lexCase{
		{"#", "comment:#@0"}, {"##", "comment:##@0"}, {"# c", "comment:# c@0"}, {"# c ", "comment:# c @0"}, {"x# c", "name:x@0 comment:# c@1"}, {"x # c\n", `name:x@0 comment:# c@2 newline:\n@5`}, {"#\n#", `comment:#@0 newline:\n@1 comment:#@2`},
		{"# c\ny", `comment:# c@0 newline:\n@3 name:y@4`}, {"#\n", `comment:#@0 newline:\n@1`}, {"#\n\n", `comment:#@0 newline:\n@1 newline:\n@2`}, {`# "/`, `comment:# "/@0`}, {"# @\\\r\x00\xff", "comment:# @\\\r\x00\xff@0"},
		{`"#" #`, `str:"#"@0 comment:#@4`}, {"/#/ #", "ere:/#/@0 comment:#@4"}, {"f(# c\n)", `func:f@0 op:(@1 comment:# c@2 newline:\n@5 op:)@6`}, {"f# (", "name:f@0 comment:# (@1"},
	})
}

func TestP4LexOfNumbers(t *testing.T) {
	checkLex(t, []lexCase{
		{"1x", "num:1@0 name:x@1"}, {"1 x", "num:1@0 name:x@2"}, {"1_", "num:1@0 name:_@1"}, {"0x1f", "num:0@0 name:x1f@1"}, {"1if", "num:1@0 key:if@1"}, {"1length", "num:1@0 builtin:length@1"}, {"1f(", "num:1@0 func:f@1 op:(@2"},
		{"1e", "num:1@0 name:e@1"}, {"1e+", "num:1@0 name:e@1 op:+@2"}, {"1e+5", "num:1e+5@0"}, {"1e+5e", "num:1e+5@0 name:e@4"}, {"1e5.5", "num:1e5@0 num:.5@3"}, {"1e.5", "num:1@0 name:e@1 num:.5@2"}, {"2E-4+", "num:2E-4@0 op:+@4"}, {"1e(", "num:1@0 func:e@1 op:(@2"},
		{"1.", "num:1.@0"}, {".5", "num:.5@0"}, {"1.5", "num:1.5@0"}, {"1.5.5", "num:1.5@0 num:.5@3"}, {"1..5", "num:1.@0 num:.5@2"}, {".5.5.5", "num:.5@0 num:.5@2 num:.5@4"}, {"1 .5", "num:1@0 num:.5@2"}, {"1 2", "num:1@0 num:2@2"}, {"1.x", "num:1.@0 name:x@2"},
		{"x.5", "name:x@0 num:.5@1"}, {"x1.5", "name:x1@0 num:.5@2"}, {"-1", "op:-@0 num:1@1"}, {"1-1", "num:1@0 op:-@1 num:1@2"}, {`1"a"2`, `num:1@0 str:"a"@1 num:2@4`}, {"007", "num:007@0"}, {"$.5", "op:$@0 num:.5@1"},
	})
	checkFaults(t, []faultCase{
		{".", 0}, {"..", 0}, {". 5", 0}, {"..5", 0}, {"1..", 2}, {"1.5.", 3}, {".x", 0}, {"x.", 1}, {"x.y", 1}, {"1 .", 2}, {".e5", 0}, {"1...5", 2}, {".\n5", 0}, {".\\\n5", 0}, {"$.", 1},
	})
}

func TestP4LexOfStrings(t *testing.T) {
	checkLex(t, []lexCase{
		{`""`, `str:""@0`}, {`"a""b"`, `str:"a"@0 str:"b"@3`}, {`"a" "b"`, `str:"a"@0 str:"b"@4`}, {`x"a"y`, `name:x@0 str:"a"@1 name:y@4`}, {`"\""`, `str:"\""@0`}, {`"\\""a"`, `str:"\\"@0 str:"a"@4`}, {`"if (/"`, `str:"if (/"@0`},
	})
	checkFaults(t, []faultCase{
		{`"`, 0}, {`"a`, 0}, {`x "a`, 2}, {`"a" "`, 4}, {`"a\"`, 0}, {`"\`, 0}, {"\"a\n\"", 0}, {"\"a\n", 0}, {"x=\"a\ny", 2}, {`"""`, 2}, {"\n\n\"", 2}, {`'a'`, 0},
	})
}

func TestP4LexOfOtherBytes(t *testing.T) {
	checkFaults(t, []faultCase{
		{"x @", 2}, {"@", 0}, {" @", 1}, {"&", 0}, {"a & b", 2}, {"a&&&b", 3}, {"'", 0}, {"`", 0}, {"\r", 0}, {"x\r\n", 1}, {"\v", 0}, {"\f", 0}, {"\x00", 0}, {"x\x00", 1}, {"\xff", 0}, {"\xc3\xa4", 0}, {"a\xc3\xa4", 1}, {"\xa0", 0},
		{"x=1\ny=@\n@", 6}, {"@ \"", 0}, {"\\\n@", 2}, {"f(@", 2}, {"1@", 1}, {"/a/@", 3}, {`"a"@`, 3}, {"abc@", 3},
	})
	starts := " \t\n#\"$%()*+,-:;<=>?[]^{}~!|" + digitsWanted + lettersWanted
	for b := range 256 {
		s := string([]byte{byte(b)})
		alone := byteIn(b, starts) && b != '"'
		if _, f := impl.Lex(s); (f == impl.Fault{}) != alone {
			t.Errorf("Lex(%q): %v", s, f)
		}
	}
}

func TestP4LexOfEachByte(t *testing.T) {
	c := newLexCheck()
	for _, s := range wordsOver(everyByte(), 1) {
		for _, before := range []string{"", "x", "x ", "1", "1.", "1e", "/a/", "/", "/a", `"`, `"a"`, "\n", "#", "+", "a[1]", "f", "f(", "if", "length", "abcdefghijkl", "a++", "\\\n"} {
			for _, after := range []string{"", "x", "(", "=", "\n", "/a/", "5", ".5", `"`, "#"} {
				c.check(t, before+s+after)
			}
		}
	}
	for _, s := range wordsOver(everyByte(), 2) {
		c.check(t, s)
	}
}

func TestP4LexOfShortTexts(t *testing.T) {
	c := newLexCheck()
	for _, x := range []struct {
		alphabet string
		most     int
	}{
		{"a1./ (\n", 5},
		{"/\\\na =+", 5},
		{"\"\\\n a#", 5},
		{"=+-|&!~><^", 4},
		{"1.eE+-x ", 4},
		{"in(if [ ", 4},
	} {
		for _, s := range wordsOver(x.alphabet, x.most) {
			c.check(t, s)
		}
	}
}

func TestP4LexOfPrograms(t *testing.T) {
	c := newLexCheck()
	program := "BEGIN { x = 1.5e+3; y[.5, 7.] = \"a\\\"b\" \"c\\\\\" } # 1 \"2\" /3/\n" +
		"$1 ~ /a\\/b[c]/ && length > 10e { print x1 _y2, 3.5.1 >> \"out\" }\n" +
		"function f(a, b) { return a / b \\\n + 2E-4 - 1e5 }\nEND { if (/=/) f (1)/2; else f(x /= 2) }\n"
	for i := range len(program) + 1 {
		c.check(t, program[:i])
		c.check(t, program[i:])
		c.check(t, program[:i]+" "+program[i:])
		c.check(t, program[:i]+program[min(i+1, len(program)):])
	}
}

func TestP4LexOfLargeTexts(t *testing.T) {
	c := newLexCheck()
	for _, s := range []string{" ", "\n", ";", "x ", "1 ", "a+", "\\\n", "f(", ".5", "/a/ ", "x\n", "\"a\"", "abcdefghijkl "} {
		for n := maxTextWanted - 2; n <= maxTextWanted+2; n++ {
			text := strings.Repeat(s, maxTextWanted+2)
			c.check(t, text[len(text)-n:])
			c.check(t, text[:n])
		}
	}
	for _, s := range []string{"# %", `"%"`, "/%/", "#%\n"} {
		for n := maxTextWanted - len(s) - 1; n <= maxTextWanted-len(s)+3; n++ {
			c.check(t, strings.ReplaceAll(s, "%", strings.Repeat("c", n)))
		}
	}
}

func TestP4LexOfMaxTextAndMore(t *testing.T) {
	if l, f := impl.Lex(strings.Repeat("\n", 3000)); len(l) != 3000 || f != (impl.Fault{}) || !impl.TokensOk(l) {
		t.Error("MaxText newlines:", len(l), f)
	}
	if l, f := impl.Lex(strings.Repeat(" ", 3000)); len(l) != 0 || f != (impl.Fault{}) {
		t.Error("MaxText blanks:", len(l), f)
	}
	if l, f := impl.Lex(strings.Repeat(" ", 2999) + "x"); len(l) != 1 || f != (impl.Fault{}) {
		t.Error("a last name:", len(l), f)
	}
	if l, f := impl.Lex(strings.Repeat(" ", 2999) + "@"); len(l) != 0 || f != (impl.Fault{Kind: impl.FtLex, At: 2999}) {
		t.Error("a last byte that begins no token:", len(l), f)
	}
	for _, s := range []string{strings.Repeat("\n", 3001), strings.Repeat(" ", 3001), "#" + strings.Repeat("c", 3000), "@" + strings.Repeat(" ", 3000), strings.Repeat("@", 3001), strings.Repeat("x ", 1<<20)} {
		if l, f := impl.Lex(s); len(l) != 0 || f != (impl.Fault{Kind: impl.FtLarge}) {
			t.Errorf("Lex of %d bytes: %d tokens, %v", len(s), len(l), f)
		}
	}
}

// sampleTokens are valid tokens of each kind whose texts begin and end in all
// the ways that matter to their neighbours.
func sampleTokens() []impl.Token {
	var l []impl.Token
	add := func(kind int, texts ...string) {
		for _, s := range texts {
			l = append(l, impl.Token{Kind: kind, Text: s})
		}
	}
	add(2, "#", "# c \\", "#\"/")
	add(3, "1", "1.", ".5", "1.5", "1e3", ".5E-2", "7.e1")
	add(4, `""`, `"a"`, `"\\"`)
	add(5, "/a/", "/=/", `/\//`)
	add(6, "x", "e", "e5", "_", "E1", "abcdefghijkl")
	add(7, "f", "e", "abcdefghijkl")
	add(8, "length", "atan2", "sub")
	for kind := 1; kind <= 68; kind++ {
		if s := spellingsWanted()[kind]; s != "" {
			add(kind, s)
		}
	}
	return l
}

// okWanted says the rules of TokensOk once more, each by itself.
func (c lexCheck) okWanted(check tokenCheck, l []impl.Token) bool {
	if len(l) > maxTokensWanted {
		return false
	}
	for i, x := range l {
		after, before := 0, 0
		if i+1 < len(l) {
			after = l[i+1].Kind
		}
		if i > 0 {
			before = l[i-1].Kind
		}
		bad := !check.want(x.Kind, x.Text) || x.Kind == 7 && after != 32 || x.Kind == 2 && i+1 < len(l) && after != 1
		bad = bad || x.Kind == 5 && endsOperandWanted(before) || (x.Kind == 58 || x.Kind == 41) && !endsOperandWanted(before)
		if bad {
			return false
		}
	}
	return true
}

func TestP4TokensOkOfPairsAndTriples(t *testing.T) {
	c, check := newLexCheck(), newTokenCheck()
	l := append(sampleTokens(), impl.Token{}, impl.Token{Kind: 3, Text: "x"}, impl.Token{Kind: 9, Text: "x"}, impl.Token{Kind: 6}, impl.Token{Kind: 2, Text: "#\n"}, impl.Token{Kind: 32, Text: "("})
	count := 0
	checkList := func(list ...impl.Token) bool {
		want := c.okWanted(check, list)
		if got := impl.TokensOk(list); got != want {
			t.Errorf("TokensOk of %s is %v", shown(list), got)
		}
		return want
	}
	for _, a := range l {
		checkList(a)
		for _, b := range l {
			checkList(a, b)
			for _, x := range l {
				if checkList(a, b, x) {
					count++
				}
			}
		}
	}
	if count < 100000 {
		t.Error(count, "triples")
	}
}

// listOf makes tokens from parts such as name:x or op:/, with the kinds by
// their texts.
func listOf(parts ...string) []impl.Token {
	names := map[string]int{"comment": 2, "num": 3, "str": 4, "ere": 5, "name": 6, "func": 7, "builtin": 8}
	spelled := keywordKinds()
	for s, kind := range opTable() {
		spelled[s] = kind
	}
	spelled["\n"] = 1
	var l []impl.Token
	for _, part := range parts {
		name, text, _ := strings.Cut(part, ":")
		kind := names[name]
		if kind == 0 {
			kind = spelled[text]
		}
		l = append(l, impl.Token{Kind: kind, Text: text})
	}
	return l
}

func TestP4TokensOkExamples(t *testing.T) {
	for _, parts := range [][]string{
		{}, {"name:x"}, {"func:f", "op:("}, {"func:f", "op:(", "op:)"}, {"name:f", "op:("}, {"builtin:sin", "op:("}, {"builtin:length"}, {"comment:#"}, {"comment:#", "newline:\n"}, {"comment:#", "newline:\n", "comment:#"}, {"name:x", "comment:#"},
		{"ere:/a/"}, {"op:~", "ere:/a/"}, {"newline:\n", "ere:/a/"}, {"key:print", "ere:/a/"}, {"op:(", "ere:/a/", "op:)"}, {"name:x", "newline:\n", "ere:/a/"}, {"func:f", "op:(", "ere:/a/"}, {"op:}", "ere:/a/"},
		{"name:x", "op:/"}, {"num:1", "op:/"}, {"str:\"\"", "op:/"}, {"ere:/a/", "op:/"}, {"builtin:length", "op:/"}, {"op:)", "op:/"}, {"op:]", "op:/"}, {"op:++", "op:/"}, {"op:--", "op:/="}, {"name:x", "op:/="}, {"name:x", "op:/", "ere:/a/"},
		{"op:)", "op:)"}, {"num:1", "num:2"}, {"name:x", "name:y", "str:\"\""}, {"key:else", "key:else"},
	} {
		if !impl.TokensOk(listOf(parts...)) {
			t.Errorf("TokensOk of %q is false", parts)
		}
	}
	for _, parts := range [][]string{
		{"func:f"}, {"func:f", "name:x"}, {"func:f", "newline:\n"}, {"func:f", "comment:#"}, {"func:f", "func:g", "op:("}, {"name:x", "func:f"}, {"func:f", "op:["}, {"func:f", "op:)"}, {"comment:#", "name:x"}, {"comment:#", "comment:#"}, {"comment:#", "op:("}, {"comment:#", "ere:/a/"}, {"comment:#", "op:;"},
		{"name:x", "ere:/a/"}, {"num:1", "ere:/a/"}, {"str:\"\"", "ere:/a/"}, {"ere:/a/", "ere:/b/"}, {"builtin:length", "ere:/a/"}, {"op:)", "ere:/a/"}, {"op:]", "ere:/a/"}, {"op:++", "ere:/a/"}, {"op:--", "ere:/a/"},
		{"op:/"}, {"op:/="}, {"op:(", "op:/"}, {"newline:\n", "op:/"}, {"newline:\n", "op:/="}, {"key:print", "op:/"}, {"op:/", "name:x"}, {"name:x", "op:/", "op:/"}, {"name:x", "op:/", "op:/="}, {"name:x", "newline:\n", "op:/"}, {"op:}", "op:/="}, {"op:$", "op:/"},
		{"num:x"}, {"name:1"}, {"name:if"}, {"name:"}, {"none:x"}, {"name:x", "name:abcdefghijklm"}, {"comment:x"}, {"str:\""}, {"ere://"}, {"comment:#\n", "newline:\n"}, {"name:x", "num:"},
	} {
		if impl.TokensOk(listOf(parts...)) {
			t.Errorf("TokensOk of %q is true", parts)
		}
	}
}

func TestP4TokensOkOfManyTokens(t *testing.T) {
	for _, parts := range [][]string{{"name:x"}, {"newline:\n"}, {"op:("}, {"num:1"}, {"key:in"}} {
		for _, n := range []int{1, 2999, 3000, 3001, 3002, 6000} {
			if got := impl.TokensOk(repeated(listOf(parts...), n)); got != (n <= 3000) {
				t.Errorf("TokensOk of %d of %q is %v", n, parts, got)
			}
		}
	}
	for _, last := range []string{"ere:/a/", "func:f", "num:x", "comment:x"} {
		l := append(repeated(listOf("name:x"), 2999), listOf(last)...)
		if impl.TokensOk(l) {
			t.Errorf("TokensOk of many tokens and %s is true", last)
		}
	}
}

func repeated(l []impl.Token, n int) []impl.Token {
	var all []impl.Token
	for i := range n {
		all = append(all, l[i%len(l)])
	}
	return all
}

func TestP4TokensOkIgnoresOffsets(t *testing.T) {
	for _, at := range []int{0, 5, -1, math.MaxInt, math.MinInt} {
		l := listOf("name:x", "op:/", "num:1")
		for i := range l {
			l[i].At = at
		}
		if !impl.TokensOk(l) || impl.Spell(l) != "x/1" {
			t.Errorf("TokensOk or Spell with At %d", at)
		}
	}
}

// gapWanted says the rules of NeedsGap once more.
func (c lexCheck) gapWanted(a, b impl.Token) bool {
	if a.Text == "" || b.Text == "" || a.Kind == 2 || a.Kind == 1 || b.Kind == 1 {
		return false
	}
	wordBytes := lettersWanted + digitsWanted
	first, last := int(b.Text[0]), int(a.Text[len(a.Text)-1])
	_, longest := longestOp(c.operators, a.Text+b.Text, 0)
	return byteIn(last, wordBytes) && byteIn(first, wordBytes) ||
		a.Kind == 3 && byteIn(first, wordBytes+".") ||
		a.Kind == 6 && b.Kind == 32 ||
		a.Kind >= 30 && a.Kind <= 68 && longest > len(a.Text)
}

func TestP4NeedsGapOfPairs(t *testing.T) {
	c := newLexCheck()
	l := sampleTokens()
	for kind := -1; kind <= 70; kind++ {
		for _, s := range []string{"", "x", "1.", ".", "+", "=", "(", "\n", "++", "\xff", "|", "5"} {
			l = append(l, impl.Token{Kind: kind, Text: s, At: 3})
		}
	}
	for _, a := range l {
		for _, b := range l {
			if got := impl.NeedsGap(a, b); got != c.gapWanted(a, b) {
				t.Errorf("NeedsGap(%s, %s) = %v", shown([]impl.Token{a}), shown([]impl.Token{b}), got)
			}
		}
	}
}

func TestP4SpellExamples(t *testing.T) {
	for _, x := range []struct {
		want  string
		parts []string
	}{
		{"", nil}, {"x", []string{"name:x"}}, {"x y", []string{"name:x", "name:y"}}, {"x 1", []string{"name:x", "num:1"}}, {"x.5", []string{"name:x", "num:.5"}}, {"1 x", []string{"num:1", "name:x"}},
		{"1. x", []string{"num:1.", "name:x"}}, {"1 .5", []string{"num:1", "num:.5"}}, {"1. .5", []string{"num:1.", "num:.5"}}, {"1. 5", []string{"num:1.", "num:5"}}, {"1 2", []string{"num:1", "num:2"}},
		{"1+", []string{"num:1", "op:+"}}, {`1"a"`, []string{"num:1", `str:"a"`}}, {"1 if", []string{"num:1", "key:if"}},
		{"if x", []string{"key:if", "name:x"}}, {"if(", []string{"key:if", "op:("}}, {"f(", []string{"func:f", "op:("}}, {"f (", []string{"name:f", "op:("}}, {"sin(", []string{"builtin:sin", "op:("}},
		{"f[", []string{"name:f", "op:["}}, {"sin cos", []string{"builtin:sin", "builtin:cos"}}, {"in f(", []string{"key:in", "func:f", "op:("}},
		{"+ +", []string{"op:+", "op:+"}}, {"+ ++", []string{"op:+", "op:++"}}, {"+ =", []string{"op:+", "op:="}}, {"+ ==", []string{"op:+", "op:=="}}, {"+ +=", []string{"op:+", "op:+="}}, {"+-", []string{"op:+", "op:-"}},
		{"+++", []string{"op:++", "op:+"}}, {"++=", []string{"op:++", "op:="}}, {"- --", []string{"op:-", "op:--"}}, {"> >", []string{"op:>", "op:>"}}, {"> >=", []string{"op:>", "op:>="}}, {">>>", []string{"op:>>", "op:>"}},
		{">>=", []string{"op:>>", "op:="}}, {"<<", []string{"op:<", "op:<"}}, {"< =", []string{"op:<", "op:="}}, {"= =", []string{"op:=", "op:="}}, {"= ==", []string{"op:=", "op:=="}}, {"===", []string{"op:==", "op:="}},
		{"=<", []string{"op:=", "op:<"}},
		{"! =", []string{"op:!", "op:="}}, {"! ~", []string{"op:!", "op:~"}}, {"!!", []string{"op:!", "op:!"}}, {"!!~", []string{"op:!", "op:!~"}}, {"~!", []string{"op:~", "op:!"}}, {"| |", []string{"op:|", "op:|"}},
		{"| ||", []string{"op:|", "op:||"}}, {"|||", []string{"op:||", "op:|"}}, {"x/ =", []string{"name:x", "op:/", "op:="}}, {"x/ ==", []string{"name:x", "op:/", "op:=="}}, {"x//a/", []string{"name:x", "op:/", "ere:/a/"}},
		{"x//=/", []string{"name:x", "op:/", "ere:/=/"}}, {"x/=/=/", []string{"name:x", "op:/=", "ere:/=/"}}, {"/a/x", []string{"ere:/a/", "name:x"}}, {"/a//x", []string{"ere:/a/", "op:/", "name:x"}},
		{"((", []string{"op:(", "op:("}}, {"* =", []string{"op:*", "op:="}}, {"**", []string{"op:*", "op:*"}}, {"-1", []string{"op:-", "num:1"}}, {"-.5", []string{"op:-", "num:.5"}},
		{"x# c", []string{"name:x", "comment:# c"}}, {"# c\nx", []string{"comment:# c", "newline:\n", "name:x"}}, {"x\ny", []string{"name:x", "newline:\n", "name:y"}}, {"\n\n", []string{"newline:\n", "newline:\n"}},
		{`"a""b"`, []string{`str:"a"`, `str:"b"`}}, {`x"a"y`, []string{"name:x", `str:"a"`, "name:y"}}, {"# cx", []string{"comment:# c", "name:x"}},
		{"xy", []string{"name:x", "name:", "name:y"}}, {"x y", []string{"name:", "name:x", "name:y", "name:"}}, {"", []string{"name:", "op:"}},
	} {
		l := listOf(x.parts...)
		if got := impl.Spell(l); got != x.want {
			t.Errorf("Spell of %q is %q, want %q", x.parts, got, x.want)
		}
		if impl.TokensOk(l) {
			checkReadBack(t, l)
		}
	}
}

func TestP4SpellOfManyTokens(t *testing.T) {
	l := repeated(listOf("name:x"), 4000)
	if got := impl.Spell(l); got != strings.TrimSuffix(strings.Repeat("x ", 4000), " ") {
		t.Error("many names:", len(got), "bytes")
	}
	for _, n := range []int{1499, 1500, 1501, 3000} {
		checkReadBack(t, repeated(listOf("name:x"), n))
		checkReadBack(t, repeated(listOf("newline:\n"), n))
		checkReadBack(t, repeated(listOf("name:x", "op:/"), n))
	}
	if got := impl.Spell(repeated(listOf("op:(", "comment:#"), 1<<18)); got != strings.Repeat("(#", 1<<17) {
		t.Error("many signs and comments:", len(got), "bytes")
	}
}

func TestP4PairsAndTriplesAreReadBack(t *testing.T) {
	t.Parallel()
	l := sampleTokens()
	count := 0
	for _, a := range l {
		for _, b := range l {
			for _, x := range l {
				for _, list := range [][]impl.Token{{a}, {a, b}, {a, b, x}} {
					if impl.TokensOk(list) {
						checkReadBack(t, list)
						count++
					}
				}
			}
		}
	}
	if count < 100000 {
		t.Error(count, "lists")
	}
}

// followers returns the tokens that may follow a token of the previous kind.
func followers(l []impl.Token, previous int) []impl.Token {
	var may []impl.Token
	for _, x := range l {
		bad := previous == 7 && x.Kind != 32 || previous == 2 && x.Kind != 1 || x.Kind == 5 && endsOperandWanted(previous) || (x.Kind == 41 || x.Kind == 58) && !endsOperandWanted(previous)
		if !bad {
			may = append(may, x)
		}
	}
	return may
}

func TestP4LongListsAreReadBack(t *testing.T) {
	t.Parallel()
	random := rand.New(rand.NewPCG(5, 4))
	samples := sampleTokens()
	may := map[int][]impl.Token{}
	for _, x := range append(samples, impl.Token{}) {
		may[x.Kind] = followers(samples, x.Kind)
	}
	for n := range 2000 {
		var l []impl.Token
		previous := 0
		for range n%900 + 1 {
			x := may[previous][random.IntN(len(may[previous]))]
			l = append(l, x)
			previous = x.Kind
		}
		if previous == impl.TkFunc {
			l = append(l, impl.Token{Kind: impl.TkLParen, Text: "("})
		}
		if !impl.TokensOk(l) {
			t.Fatalf("TokensOk of %s is false", shown(l))
		}
		checkReadBack(t, l)
	}
}

func TestP4SameTokens(t *testing.T) {
	l := listOf("name:x", "op:+", "num:1")
	other := func(change func(x *impl.Token), i int) []impl.Token {
		m := slices.Clone(l)
		change(&m[i])
		return m
	}
	if !impl.SameTokens(nil, nil) || !impl.SameTokens(nil, []impl.Token{}) || !impl.SameTokens(l, l) || !impl.SameTokens(l, slices.Clone(l)) {
		t.Error("equal lists")
	}
	for i := range l {
		for _, x := range []struct {
			want   bool
			change func(x *impl.Token)
		}{
			{true, func(x *impl.Token) { x.At = 9 }},
			{true, func(x *impl.Token) { x.At = math.MinInt }},
			{false, func(x *impl.Token) { x.Kind = impl.TkFunc }},
			{false, func(x *impl.Token) { x.Kind = -1 }},
			{false, func(x *impl.Token) { x.Text = "y" }},
			{false, func(x *impl.Token) { x.Text += "1" }},
			{false, func(x *impl.Token) { x.Text = "" }},
		} {
			m := other(x.change, i)
			if impl.SameTokens(l, m) != x.want || impl.SameTokens(m, l) != x.want || !impl.SameTokens(m, m) {
				t.Errorf("SameTokens(%s, %s) is not %v", shown(l), shown(m), x.want)
			}
		}
	}
	for n := range len(l) {
		if impl.SameTokens(l, l[:n]) || impl.SameTokens(l[:n], l) || impl.SameTokens(l, l[len(l)-n:]) || impl.SameTokens(l, append(slices.Clone(l), l[n])) {
			t.Error("lists of other lengths")
		}
	}
	if impl.SameTokens(l, []impl.Token{l[1], l[0], l[2]}) {
		t.Error("another order")
	}
}

func TestP4FaultWord(t *testing.T) {
	words := map[int]string{0: "none", 1: "large", 2: "lex", 3: "syntax", 4: "deep"}
	for _, kind := range someKinds() {
		if got := impl.FaultWord(kind); got != words[kind] {
			t.Errorf("FaultWord(%d) = %q", kind, got)
		}
	}
}

func TestP4ResultsAreNewAndArgumentsStay(t *testing.T) {
	s := "x = f(1) / 2 # c\n"
	a, _ := impl.Lex(s)
	b, _ := impl.Lex(s)
	before := slices.Clone(a)
	for i := range b {
		b[i] = impl.Token{Kind: -1, Text: "changed", At: -1}
	}
	b = append(b, impl.Token{})
	if !slices.Equal(a, before) || len(b) != len(a)+1 {
		t.Error("two results share memory")
	}
	mark := impl.Token{Kind: 77, Text: "unused", At: 77}
	long := append(slices.Clone(a), mark, mark, mark)
	short := long[:len(a)]
	impl.Spell(short)
	impl.TokensOk(short)
	impl.SameTokens(short, short)
	if !slices.Equal(long, append(slices.Clone(before), mark, mark, mark)) {
		t.Error("an argument was changed")
	}
}
