package tests

import (
	"math"
	"math/rand/v2"
	"slices"
	"strings"
	"testing"

	"loop.example/g01543/impl"
)

// The tests of this file check P13, as far as the comments of a parsed program go, and
// P10 for texts. What a text is parsed to is told by the lexer of the tests of chapter
// 5 and the grammar of the tests of chapter 13.

// checkText checks a result of Parse.
func checkText(t *testing.T, s string, want parseWanted) {
	t.Helper()
	tree, fault := impl.Parse(s)
	if fault != want.fault || !sameNodes(tree, want.tree) {
		t.Errorf("Parse of %.300q: %s, want %s", s, parseWanted{tree, 0, fault}.shownResult(), want.shownResult())
	}
}

func (c programCheck) textWanted(t *testing.T, s string) parseWanted {
	t.Helper()
	l, fault := c.lex.want(s)
	if fault != (impl.Fault{}) {
		return parseWanted{fault: fault}
	}
	return c.want(t, l)
}

func (c programCheck) checkText(t *testing.T, s string) parseWanted {
	t.Helper()
	want := c.textWanted(t, s)
	checkText(t, s, want)
	return want
}

// sameTexts checks that two texts have the same tree.
func (c programCheck) sameTexts(t *testing.T, a, b string) {
	t.Helper()
	one, other := c.checkText(t, a), c.checkText(t, b)
	if one.fault != (impl.Fault{}) || other.fault != (impl.Fault{}) || !sameNodes(one.tree, other.tree) {
		t.Errorf("%q and %q have different trees: %s and %s", a, b, one.shownResult(), other.shownResult())
	}
}

// commentTexts has the texts of the tokens that begin with a #, which no others do.
func commentTexts(l []impl.Token) []string {
	var texts []string
	for _, x := range l {
		if strings.HasPrefix(x.Text, "#") {
			texts = append(texts, x.Text)
		}
	}
	return texts
}

// checkComments checks that the comments of a tree are these, and those of the tokens
// of its text.
func checkComments(t *testing.T, s string, tree []impl.Node, texts []string) {
	t.Helper()
	l, fault := impl.Lex(s)
	tokens, nodes := impl.TokenComments(l), impl.TreeComments(tree)
	if fault != (impl.Fault{}) || !slices.Equal(tokens, texts) || !slices.Equal(nodes, texts) {
		t.Errorf("the comments of %.300q are %q, in the tree %q, want %q", s, tokens, nodes, texts)
	}
	if impl.KindCount(tree, impl.SComment) != len(texts) {
		t.Errorf("the tree of %.300q has %d comments, want %q", s, impl.KindCount(tree, impl.SComment), texts)
	}
}

// checkAnyText checks what holds for each text: the result is that of Lex and
// ParseTokens, and either a valid program with the comments of the text or a fault
// inside the text.
func checkAnyText(t *testing.T, c rightCheck, s string) impl.Fault {
	t.Helper()
	tree, fault := impl.Parse(s)
	l, lexical := impl.Lex(s)
	want := parseWanted{fault: lexical}
	if lexical == (impl.Fault{}) {
		want.tree, want.fault = impl.ParseTokens(l)
	}
	checkText(t, s, want)
	if fault == (impl.Fault{}) {
		if len(tree) == 0 || !c.treeWanted(tree) || tree[len(tree)-1].Kind != impl.PProgram || !impl.ProgramOk(tree) {
			t.Errorf("Parse of %.300q is no valid program: %s", s, nodesShown(tree))
		}
		checkComments(t, s, tree, commentTexts(l))
		return fault
	}
	words := []string{"large", "lex", "syntax", "deep"}
	if len(tree) > 0 || fault.At < 0 || fault.At > len(s) || !slices.Contains(words, impl.FaultWord(fault.Kind)) {
		t.Errorf("Parse of %.300q: %s, %+v", s, nodesShown(tree), fault)
	}
	return fault
}

// spread writes tokens with blanks and joined lines around them where there may be
// any, and returns the text and the tokens with their offsets in it.
func (c lexCheck) spread(random *rand.Rand, l []impl.Token, most int) (string, []impl.Token) {
	s := ""
	gap := func(least int) {
		for range max(least, random.IntN(most+1)) {
			s += []string{" ", " ", "\t", "\\\n"}[random.IntN(4)]
		}
	}
	l = slices.Clone(l)
	gap(0)
	for i, x := range l {
		switch {
		case i == 0 || l[i-1].Kind == impl.TkComment || l[i-1].Kind == impl.TkFunc:
		case c.gapWanted(l[i-1], x):
			gap(1)
		default:
			gap(0)
		}
		l[i].At = len(s)
		s += x.Text
	}
	if len(l) > 0 && l[len(l)-1].Kind != impl.TkComment {
		gap(0)
	}
	return s, l
}

// textMaker makes texts of random programs.
type textMaker struct {
	random *rand.Rand
	lex    lexCheck
	nodes  *nodeMaker
	writer *programWriter
}

func newTextMaker(random *rand.Rand) *textMaker {
	return &textMaker{random, newLexCheck(), newNodeMaker(random), newProgramWriter(random)}
}

// written returns a text of a program, its tokens and what Parse should return.
func (m *textMaker) written(l []impl.Node, marks, bare, gaps int) (string, []impl.Token, parseWanted) {
	tokens, want := m.writer.written(l, marks, bare)
	s, tokens := m.lex.spread(m.random, tokens, gaps)
	switch i := nestWanted(tokens); {
	case len(s) > maxTextWanted:
		want = faultOf(impl.FtLarge, 0)
	case i >= 0:
		want = faultOf(impl.FtDeep, tokens[i].At)
	}
	return s, tokens, want
}

// program returns the text of a random program, which differs in its size, its marks,
// its gaps and the braces of its bodies by the round.
func (m *textMaker) program(round, most int) (string, []impl.Token, parseWanted) {
	l := randomProgram(m.nodes, round%most, 4+round%20)
	return m.written(l, round%5, round%6, round%7/2)
}

// changed has the text with one byte changed, removed, added, doubled, and exchanged
// with the one behind it.
func (m *textMaker) changed(s string) []string {
	if s == "" {
		return nil
	}
	often := "\n;#{}()[],\\\"/ \t+-=<>!&|~^%*?:$.1eax_@"
	b := string([]byte{byte(m.random.IntN(256))})
	if m.random.IntN(4) > 0 {
		i := m.random.IntN(len(often))
		b = often[i : i+1]
	}
	i := m.random.IntN(len(s))
	k := min(i+2, len(s))
	return []string{
		s[:i] + b + s[i+1:], s[:i] + s[i+1:], s[:i] + b + s[i:], s[:i] + s[i:i+1] + s[i:], s[:i] + s[i+1:k] + s[i:i+1] + s[k:],
	}
}

func TestP13CommentsOfRandomPrograms(t *testing.T) {
	t.Parallel()
	m := newTextMaker(rand.New(rand.NewPCG(14, 1)))
	valid, comments := 0, 0
	for round := range 3000 {
		s, tokens, want := m.program(round, 120)
		checkText(t, s, want)
		if want.fault != (impl.Fault{}) {
			continue
		}
		l, fault := impl.Lex(s)
		if fault != (impl.Fault{}) || !slices.Equal(l, tokens) {
			t.Fatalf("Lex of %q: %v, %v", s, fault, shown(l))
		}
		tree, _ := impl.Parse(s)
		texts := commentTexts(tokens)
		checkComments(t, s, tree, texts)
		valid++
		comments += len(texts)
	}
	if valid < 2800 || comments < 5*valid {
		t.Error(valid, "valid programs with", comments, "comments")
	}
}

// TestP13SmallPrograms has small programs, of which the grammar tells the trees.
func TestP13SmallPrograms(t *testing.T) {
	t.Parallel()
	c := newProgramCheck()
	m := newTextMaker(rand.New(rand.NewPCG(14, 2)))
	comments := 0
	for round := range 1500 {
		s, tokens, want := m.program(round, 25)
		if len(tokens) > 120 {
			continue
		}
		if got := c.checkText(t, s); got.fault != want.fault || !sameNodes(got.tree, want.tree) {
			t.Errorf("%q was not written as it should be: %s, want %s", s, got.shownResult(), want.shownResult())
		}
		comments += impl.KindCount(want.tree, impl.SComment)
	}
	if comments < 3000 {
		t.Error("only", comments, "comments")
	}
}

// commentPlaces has programs with an @ where a comment may be inside a statement or an
// item.
func commentPlaces() []string {
	return []string{
		"{ x = 1 && @y }", "{ x = 1 || @y || @z }", "{ if (a && @b) c }", "{ if (a && @b) { c } }", "{ while (a || @b) c }", "{ while (a || @b) { c }\nd }", "{ do a; while (b && @c) }", "{ do { a } while (b || @c)\nd }",
		"{ print a, @b, @c }", "{ print a, @b > c\nd }", "{ printf a, @b | c; d }", "{ x = f(a, @b, @c) }", "{ x[a, @b] = c }", "{ delete x[a, @b] }", "{ (a, @b) in c }", "{ return substr(a, @b) }", "{ exit a && @b }", "{ print > f(a, @b) }", "{ print((a, @b) in c) }",
		"{ if (a) @b }", "{ if (a) @{ b } }", "{ if (a) @; }", "{ if (a) @{ } }", "{ if (a) @b; else @c }", "{ if (a) @{ b } else @{ c } }", "{ if (a) @{ b } @else @c }", "{ if (a) @; @else @; }", "{ if (a) @b\n@else @{ c } }", "{ if (a) b; else @if (c) @d; @else @e }", "{ if (a) @if (b) @c; @else @d\nelse @e }",
		"{ while (a) @b }", "{ while (a) @{ b } }", "{ while (a) @; b }", "{ while (a) @if (b) @c }", "{ while (a) @{ if (b) @{ c } } d }",
		"{ do @a; while (b) }", "{ do @{ a } while (b) }", "{ do @; while (b) }", "{ do @{ a } @while (b) }", "{ do @a; @while (b)\nc }", "{ do @do @a; @while (b); @while (c) }", "{ do @if (a) @b\n@while (c) }",
		"{ for (a; @b; @c) @d }", "{ for (a; @b; @c) @{ d } }", "{ for (; @; @) @; }", "{ for (a && @b; @c && @d; @e && @f) @g }", "{ for (a in b) @c }", "{ for (a in b) @{ c } }", "{ for (a in b) @; c }",
		"a && @b", "a && @b { c }", "a, @b", "a, @b { c }", "a, @b || @c { d }", "function f(a, @b) @{ c }", "function f() @{ }", "f(a, @b), @g(c, @d) { e }",
		"{ a && @b; c || @d\n e }", "{ { a && @b } }", "{ { if (a) @b }\nc }", "BEGIN { print a, @b } END { print c, @d }",
	}
}

// markedText puts comments for some of the @ of a text, with newlines behind them, and
// returns the text and the comments.
func markedText(text string, some int) (string, []string) {
	var comments []string
	parts := strings.Split(text, "@")
	s := parts[0]
	for i, part := range parts[1:] {
		if some&(1<<i) != 0 {
			comments = append(comments, "# "+impl.Dec(i)+" of "+impl.Dec(some))
			s += comments[len(comments)-1] + "\n"
		}
		s += part
	}
	return s, comments
}

// TestP13CommentsInsideStatements has comments at all places of the programs, and at
// each choice of some of them, alone and between others.
func TestP13CommentsInsideStatements(t *testing.T) {
	t.Parallel()
	c := newProgramCheck()
	for _, text := range commentPlaces() {
		bare := strings.ReplaceAll(text, "@", "")
		plain := c.checkText(t, bare)
		if plain.fault != (impl.Fault{}) {
			t.Errorf("%q: %v", bare, plain.fault)
			continue
		}
		for some := range 1 << strings.Count(text, "@") {
			s, comments := markedText(text, some)
			want := c.checkText(t, s)
			tree, fault := impl.Parse(s)
			if fault != (impl.Fault{}) || !sameNodes(impl.NoComments(tree), plain.tree) || !sameNodes(withoutComments(want.tree), plain.tree) {
				t.Errorf("Parse of %q: %s, %v", s, nodesShown(tree), fault)
			}
			checkComments(t, s, tree, comments)
			around := "# first\n" + s + " # behind\n# last"
			tree, fault = impl.Parse(around)
			if fault != (impl.Fault{}) || len(tree) != len(plain.tree)+len(comments)+3 {
				t.Errorf("Parse of %q: %s, %v", around, nodesShown(tree), fault)
			}
			checkComments(t, around, tree, append(append([]string{"# first"}, comments...), "# behind", "# last"))
		}
	}
}

// TestP13PlacesOfComments has texts with a comment inside a statement, and those with
// the comment where it stands in the tree.
func TestP13PlacesOfComments(t *testing.T) {
	c := newProgramCheck()
	for _, x := range []struct{ s, same string }{
		{"{ x = 1 && # c\n y\nz }", "{ x = 1 && y\n# c\nz }"}, {"{ x = 1 || # c\n y }", "{ x = 1 || y\n# c\n}"}, {"{ print a, # c\n b; d }", "{ print a, b\n# c\nd }"}, {"{ x = f(a, # c\n b) # d\n}", "{ x = f(a, b)\n# c\n# d\n}"},
		{"{ if (a) # c\n b }", "{ if (a) { # c\nb } }"}, {"{ if (a) # c\n { b } }", "{ if (a) { # c\nb } }"}, {"{ if (a) # c\n ; b }", "{ if (a) { # c\n} b }"}, {"{ if (a && # c\n b) d }", "{ if (a && b) { # c\nd } }"}, {"{ if (a && # c\n b) { d } }", "{ if (a && b) { # c\nd } }"},
		{"{ if (a) b; else # c\n d }", "{ if (a) { b } else { # c\nd } }"}, {"{ if (a) { b } else # c\n { d } }", "{ if (a) { b } else { # c\nd } }"}, {"{ if (a) b # c\n else d }", "{ if (a) { b } else { # c\nd } }"}, {"{ if (a) { b } # c\n else { d } }", "{ if (a) { b } else { # c\nd } }"}, {"{ if (a) b # c\n d }", "{ if (a) { b } # c\nd }"},
		{"{ do # c\n a; while (b) }", "{ do { # c\na } while (b) }"}, {"{ do # c\n { a } while (b) }", "{ do { # c\na } while (b) }"}, {"{ do # c\n ; while (b) }", "{ do { # c\n} while (b) }"}, {"{ do a # c\n while (b); d }", "{ do { a } while (b)\n# c\nd }"}, {"{ do { a } while (b && # c\n d) }", "{ do { a } while (b && d)\n# c\n}"},
		{"{ for (a; # c\n b; # d\n e) g }", "{ for (a; b; e) { # c\n# d\ng } }"}, {"{ for (a; # c\n b; # d\n e) { g } }", "{ for (a; b; e) { # c\n# d\ng } }"}, {"{ for (; # c\n; # d\n) # e\n; }", "{ for (;;) { # c\n# d\n# e\n} }"}, {"{ while (a) # c\n b # d\n}", "{ while (a) { # c\nb } # d\n}"}, {"{ for (a in b) # c\n d }", "{ for (a in b) { # c\nd } }"},
		{"a && # c\n b", "a && b\n# c"}, {"a && # c\n b { d }", "a && b { # c\nd }"}, {"a, # c\n b\nd", "a, b\n# c\nd"}, {"function f(a, # c\n b) # d\n{ e }", "function f(a, b) { # c\n# d\ne }"},
	} {
		c.sameTexts(t, x.s, x.same)
		tree, _ := impl.Parse(x.s)
		checkComments(t, x.s, tree, commentTexts(lexed(t, x.s)))
	}
	note := func(text string) []impl.Node { return single(impl.SComment, text) }
	a, b, d := nameTree("a"), nameTree("b"), stmt(impl.SExpr, nameTree("d"))
	both := stmt(impl.SExpr, binTree(impl.TkAnd, a, b))
	for _, x := range []struct {
		s     string
		stmts [][]impl.Node
	}{
		{"{ a && # c\n b; d }", [][]impl.Node{both, note("# c"), d}},
		{"{ a && # c\n b }", [][]impl.Node{both, note("# c")}},
		{"{ if (a) # c\n d # e\n}", [][]impl.Node{stmt(impl.SIf, a, block(note("# c"), d)), note("# e")}},
		{"{ if (a) { # c\n d # e\n} }", [][]impl.Node{stmt(impl.SIf, a, block(note("# c"), d, note("# e")))}},
		{"{ if (a) d; else # c\n d }", [][]impl.Node{stmt(impl.SIf, a, block(d), block(note("# c"), d))}},
		{"{ do # c\n d # e\n while (b) }", [][]impl.Node{stmt(impl.SDo, block(note("# c"), d), b), note("# e")}},
		{"{ for (a; # c\n b; # e\n) d }", [][]impl.Node{stmt(impl.SFor, a, b, single(impl.ENone, ""), block(note("# c"), note("# e"), d))}},
	} {
		checkText(t, x.s, parseWanted{tree: program(rule(2, block(x.stmts...)))})
	}
}

// lexed returns the tokens of a text without faults.
func lexed(t *testing.T, s string) []impl.Token {
	t.Helper()
	l, fault := impl.Lex(s)
	if fault != (impl.Fault{}) {
		t.Fatalf("Lex of %q: %v", s, fault)
	}
	return l
}

func TestP13Examples(t *testing.T) {
	c := newProgramCheck()
	s := "# a\nBEGIN { # b\n  x = 1 && # c\n y\n  # d\n}\n# e"
	c.checkText(t, s)
	tree, fault := impl.Parse(s)
	if fault != (impl.Fault{}) || len(tree) == 0 {
		t.Fatal(nodesShown(tree), fault)
	}
	checkComments(t, s, tree, []string{"# a", "# b", "# c", "# d", "# e"})
	kids := tree[len(tree)-1].Kids
	if len(kids) != 3 || tree[kids[0]].Kind != impl.SComment || tree[kids[1]].Kind != impl.IBegin || tree[kids[2]].Kind != impl.SComment {
		t.Error(nodesShown(tree))
	}
	plain, _ := impl.Parse("BEGIN{x=1&&y}")
	if got := impl.NoComments(tree); len(plain) == 0 || !sameNodes(got, plain) || len(impl.TreeComments(got)) != 0 {
		t.Error(nodesShown(got), "want", nodesShown(plain))
	}
	checkText(t, "x = \"a", faultOf(impl.FtLex, 4))
	for _, x := range []struct {
		s    string
		want []string
	}{
		{"", nil}, {"\n", nil}, {"#", []string{"#"}}, {"#\n#", []string{"#", "#"}}, {"##", []string{"##"}}, {"a #b #c\n#d ", []string{"#b #c", "#d "}}, {"\"#\" /#/ #\\\n#", nil},
		{"x = \"# no\" # yes", []string{"# yes"}}, {"/# no/ # yes", []string{"# yes"}}, {"a # \\\nb", []string{"# \\"}}, {"a \\\n# b", []string{"# b"}}, {"# \" / {\n", []string{"# \" / {"}}, {"# a\r\n", []string{"# a\r"}}, {"#\x00\xff", []string{"#\x00\xff"}},
		{"{ # a\n}", []string{"# a"}}, {"{}# a", []string{"# a"}}, {"BEGIN {} # a\n;# b\nEND {} ; # a", []string{"# a", "# b", "# a"}},
	} {
		want := c.checkText(t, x.s)
		if want.fault != (impl.Fault{}) {
			checkText(t, x.s, want)
			continue
		}
		tree, _ := impl.Parse(x.s)
		checkComments(t, x.s, tree, x.want)
	}
}

func TestP13TokenComments(t *testing.T) {
	note := func(text string) impl.Token { return impl.Token{Kind: impl.TkComment, Text: text} }
	line := impl.Token{Kind: impl.TkNewline, Text: "\n"}
	for _, x := range []struct {
		l    []impl.Token
		want []string
	}{
		{nil, nil}, {[]impl.Token{}, nil}, {codeOf("a = b"), nil}, {codeOf("NL NL ; NL"), nil},
		{[]impl.Token{note("# a")}, []string{"# a"}}, {[]impl.Token{note("# a"), line, note("# b")}, []string{"# a", "# b"}}, {[]impl.Token{note("# b"), line, note("# a"), line, note("# b"), line}, []string{"# b", "# a", "# b"}},
		// Tokens that no text has.
		{[]impl.Token{note("")}, []string{""}}, {[]impl.Token{note(""), note("")}, []string{"", ""}}, {[]impl.Token{note("# a"), note("# b")}, []string{"# a", "# b"}}, {[]impl.Token{note("# a\n"), note("x"), note("\xff")}, []string{"# a\n", "x", "\xff"}},
		{[]impl.Token{{Kind: impl.TkName, Text: "# a"}, {Kind: 0, Text: "# a"}, {Kind: -2, Text: "#"}, {Kind: 99, Text: "#"}, {Kind: impl.SComment, Text: "#"}}, nil}, {[]impl.Token{{Kind: impl.TkFunc, Text: "f"}, {Kind: impl.TkComment, Text: "# c", At: math.MinInt}, {Kind: impl.TkEre}}, []string{"# c"}},
		{slices.Repeat([]impl.Token{note("# c"), line}, 4000), slices.Repeat([]string{"# c"}, 4000)},
	} {
		if got := impl.TokenComments(x.l); !slices.Equal(got, x.want) {
			t.Errorf("TokenComments of %.300q: %.300q", textOf(x.l), got)
		}
	}
	for _, kind := range someKinds() {
		l := []impl.Token{{Kind: kind, Text: "#", At: 5}, {Kind: kind, Text: "x"}}
		got := impl.TokenComments(l)
		if kind == 2 && !slices.Equal(got, []string{"#", "x"}) || kind != 2 && len(got) > 0 {
			t.Errorf("TokenComments of kind %d: %q", kind, got)
		}
	}
}

func TestP13TreeComments(t *testing.T) {
	note := func(text string, kids ...int) impl.Node {
		return impl.Node{Kind: impl.SComment, Text: text, Kids: kids}
	}
	for _, x := range []struct {
		l    []impl.Node
		want []string
	}{
		{nil, nil}, {[]impl.Node{}, nil}, {[]impl.Node{{}}, nil}, {ruleExample(), nil}, {[]impl.Node{note("# a")}, []string{"# a"}}, {block(single(impl.SComment, "# a"), single(impl.SNext, ""), single(impl.SComment, "# b")), []string{"# a", "# b"}},
		// Lists that are no valid trees.
		{[]impl.Node{note("# a"), note("# b")}, []string{"# a", "# b"}}, {[]impl.Node{note(""), note("x"), note("# a\n")}, []string{"", "x", "# a\n"}}, {[]impl.Node{note("# b", 0), note("# a", -1, 5, math.MinInt, math.MaxInt)}, []string{"# b", "# a"}}, {[]impl.Node{note("# a"), {Kind: impl.SBlock, Kids: []int{0, 0}}, note("# b", 1)}, []string{"# a", "# b"}},
		{[]impl.Node{{Kind: impl.SComment, Op: 7, Text: "# a", Other: "# b"}}, []string{"# a"}}, {[]impl.Node{{Kind: impl.EName, Text: "# a"}, {Kind: 0, Text: "# a"}, {Kind: impl.SNext, Other: "# a"}, {Kind: impl.TkComment, Text: "# a"}, {Kind: 99, Text: "# a"}, {Kind: -34, Text: "# a"}}, nil},
		{slices.Repeat(single(impl.SComment, "# c"), 1000), slices.Repeat([]string{"# c"}, 1000)},
	} {
		if got := impl.TreeComments(x.l); !slices.Equal(got, x.want) {
			t.Errorf("TreeComments of %s: %.300q", nodesShown(x.l), got)
		}
	}
	for _, kind := range nodeKindsAround() {
		got := impl.TreeComments(append(single(kind, "# a"), impl.Node{Kind: kind, Text: "b", Kids: []int{9}}))
		if kind == 34 && !slices.Equal(got, []string{"# a", "b"}) || kind != 34 && len(got) > 0 {
			t.Errorf("TreeComments of kind %d: %q", kind, got)
		}
	}
}

// commenter puts comments into the blocks and the program of a tree.
type commenter struct {
	random *rand.Rand
	most   int // at each place
	texts  []string
}

func (c *commenter) notes() [][]impl.Node {
	var l [][]impl.Node
	for range c.random.IntN(c.most + 1) {
		text := "# " + impl.Dec(len(c.texts))
		if c.random.IntN(4) == 0 {
			text = []string{"#", "# it's", "#\xff\t"}[c.random.IntN(3)]
		}
		c.texts = append(c.texts, text)
		l = append(l, single(impl.SComment, text))
	}
	return l
}

func (c *commenter) tree(l []impl.Node, i int) []impl.Node {
	places := l[i].Kind == impl.SBlock || l[i].Kind == impl.PProgram
	var kids [][]impl.Node
	for _, kid := range l[i].Kids {
		if places {
			kids = append(kids, c.notes()...)
		}
		kids = append(kids, c.tree(l, kid))
	}
	if places {
		kids = append(kids, c.notes()...)
	}
	return joined(l[i], kids...)
}

// checkNoComments checks NoComments of any list of nodes, and returns whether it is a
// valid tree.
func checkNoComments(t *testing.T, c rightCheck, l []impl.Node) bool {
	t.Helper()
	got := impl.NoComments(l)
	if !c.treeWanted(l) {
		if len(got) > 0 {
			t.Errorf("NoComments of %s, which is not valid: %s", nodesShown(l), nodesShown(got))
		}
		return false
	}
	if want := withoutComments(l); !sameNodes(got, want) {
		t.Errorf("NoComments of %s: %s, want %s", nodesShown(l), nodesShown(got), nodesShown(want))
	}
	if !impl.TreeOk(got) || !c.treeWanted(got) {
		t.Errorf("NoComments of %s is not valid: %s", nodesShown(l), nodesShown(got))
	}
	if again := impl.NoComments(got); !sameNodes(again, got) {
		t.Errorf("NoComments of %s: %s", nodesShown(got), nodesShown(again))
	}
	return true
}

// TestP13NoCommentsOfRandomTrees puts comments into trees without comments, which
// NoComments takes out again.
func TestP13NoCommentsOfRandomTrees(t *testing.T) {
	t.Parallel()
	random := rand.New(rand.NewPCG(14, 3))
	m := newNodeMaker(random)
	kinds := append(validKinds(), slices.Repeat([]int{impl.PProgram, impl.SBlock, impl.SIf, impl.IFunc}, 20)...)
	compared, comments, large := 0, 0, 0
	for round := range 4000 {
		made := m.tree(kinds[round%len(kinds)], 1+round%150, 2+round%38)
		checkNoComments(t, m.c, made)
		plain := withoutComments(made)
		if got := impl.NoComments(plain); !sameNodes(got, plain) || !impl.SameTree(got, plain) {
			t.Errorf("NoComments of %s: %s", nodesShown(plain), nodesShown(got))
		}
		c := &commenter{random: random, most: round % 4 * (1 + round%9*3)}
		l := c.tree(plain, len(plain)-1)
		if got := impl.TreeComments(l); len(plain) > 1 && !slices.Equal(got, c.texts) {
			t.Errorf("TreeComments of %s: %.300q", nodesShown(l), got)
		}
		if !checkNoComments(t, m.c, l) {
			large++
			continue
		}
		if got := impl.NoComments(l); !sameNodes(got, plain) {
			t.Errorf("NoComments of %s: %s, want %s", nodesShown(l), nodesShown(got), nodesShown(plain))
		}
		compared++
		comments += len(c.texts)
	}
	if compared < 3500 || comments < 40000 || large < 20 {
		t.Error(compared, "trees with", comments, "comments,", large, "too large")
	}
}

// TestP13NoCommentsOfTexts has the trees of texts with and without their comments.
func TestP13NoCommentsOfTexts(t *testing.T) {
	t.Parallel()
	m := newTextMaker(rand.New(rand.NewPCG(14, 4)))
	compared := 0
	for round := range 3000 {
		s, tokens, want := m.program(round, 100)
		if want.fault != (impl.Fault{}) {
			continue
		}
		plain := s
		for _, x := range slices.Backward(tokens) {
			if x.Kind == impl.TkComment {
				plain = plain[:x.At] + plain[x.At+len(x.Text):]
			}
		}
		tree, _ := impl.Parse(s)
		other, fault := impl.Parse(plain)
		if fault != (impl.Fault{}) || !sameNodes(impl.NoComments(tree), other) || len(impl.TreeComments(other)) > 0 || !sameNodes(impl.NoComments(other), other) {
			t.Errorf("Parse of %.300q and of %.300q differ", s, plain)
		}
		if len(plain) < len(s) {
			compared++
		}
	}
	if compared < 1500 {
		t.Error("only", compared, "programs with comments")
	}
}

func TestP13NoCommentsAtEachPlace(t *testing.T) {
	right := newRightCheck()
	note := func(text string) []impl.Node { return single(impl.SComment, text) }
	c, x, y := note("# c"), stmt(impl.SExpr, nameTree("x")), stmt(impl.SReturn, numTree("1"))
	a, none := nameTree("a"), single(impl.ENone, "")
	begin := func(kids ...[]impl.Node) []impl.Node { return stmt(impl.IBegin, block(kids...)) }
	for _, example := range []struct{ l, want []impl.Node }{
		{block(), block()}, {block(c), block()}, {block(c, c, c), block()}, {block(x), block(x)}, {block(c, x), block(x)}, {block(x, c), block(x)}, {block(x, c, y), block(x, y)}, {block(c, c, x, c, c, y, c, c), block(x, y)}, {block(c, note("#"), x, note("# x"), y), block(x, y)},
		{block(block(c)), block(block())}, {block(block(c, x), c, block(c)), block(block(x), block())}, {block(c, block(c, block(c, x, c), c), c), block(block(block(x)))}, {block(block(), c, block()), block(block(), block())},
		{program(), program()}, {program(c), program()}, {program(c, c, c, c), program()}, {program(c, rule(1, a)), program(rule(1, a))}, {program(rule(1, a), c), program(rule(1, a))}, {program(begin(), c, c, begin()), program(begin(), begin())}, {program(c, begin(c, x, c), c, begin(c), c), program(begin(x), begin())},
		{program(rule(2, block(c)), rule(3, a, block(x, c))), program(rule(2, block()), rule(3, a, block(x)))}, {program(stmt(impl.IEnd, block(c))), program(stmt(impl.IEnd, block()))},
		{joined(impl.Node{Kind: impl.IFunc, Text: "f"}, a, a, block(c, x)), joined(impl.Node{Kind: impl.IFunc, Text: "f"}, a, a, block(x))}, {joined(impl.Node{Kind: impl.IRange, Op: 3}, a, numTree("1"), block(c)), joined(impl.Node{Kind: impl.IRange, Op: 3}, a, numTree("1"), block())},
		{stmt(impl.SIf, a, block(c, x)), stmt(impl.SIf, a, block(x))}, {stmt(impl.SIf, a, block(c, x, c), block(c, y, c)), stmt(impl.SIf, a, block(x), block(y))}, {stmt(impl.SWhile, a, block(c)), stmt(impl.SWhile, a, block())}, {stmt(impl.SDo, block(c, x), a), stmt(impl.SDo, block(x), a)},
		{stmt(impl.SFor, none, a, none, block(x, c)), stmt(impl.SFor, none, a, none, block(x))}, {joined(impl.Node{Kind: impl.SForIn, Text: "a", Other: "b"}, block(c)), joined(impl.Node{Kind: impl.SForIn, Text: "a", Other: "b"}, block())},
		{block(c, stmt(impl.SIf, a, block(c), block(c, x)), c, stmt(impl.SDo, block(c), a), c), block(stmt(impl.SIf, a, block(), block(x)), stmt(impl.SDo, block(), a))},
		{block(c, joined(impl.Node{Kind: impl.SPrint, Op: 1, Other: ">>"}, a, a, a), c), block(joined(impl.Node{Kind: impl.SPrint, Op: 1, Other: ">>"}, a, a, a))},
		// A comment alone is below no other node.
		{c, c}, {note("#"), note("#")}, {x, x}, {a, a}, {none, none}, {single(impl.SNext, ""), single(impl.SNext, "")},
	} {
		if !checkNoComments(t, right, example.l) {
			t.Errorf("%s is not valid", nodesShown(example.l))
		}
		if got := impl.NoComments(example.l); !sameNodes(got, example.want) {
			t.Errorf("NoComments of %s: %s, want %s", nodesShown(example.l), nodesShown(got), nodesShown(example.want))
		}
	}
	for _, kind := range nodeKindsAround() {
		l := smallest(right, kind)
		_, ok := right.rules[kind]
		if checkNoComments(t, right, l) != ok {
			t.Errorf("%s is valid: %v", nodesShown(l), !ok)
		}
		for _, around := range []func(...[]impl.Node) []impl.Node{block, program} {
			checkNoComments(t, right, around(c, l, c))
		}
	}
}

func TestP13NoCommentsOfInvalidTrees(t *testing.T) {
	right := newRightCheck()
	note, x := single(impl.SComment, "# c"), stmt(impl.SExpr, nameTree("x"))
	c, next := note[0], impl.Node{Kind: impl.SNext}
	kids := func(l ...int) impl.Node { return impl.Node{Kind: impl.SBlock, Kids: l} }
	invalid := [][]impl.Node{
		// No tree.
		nil, {}, {c, c}, {c, next}, {c, kids()}, {c, kids(0, 0)}, {c, next, kids(1, 0)}, {c, next, kids(1)}, {c, next, kids(0)}, {c, kids(-1)}, {c, kids(1)}, {c, kids(2)}, {c, kids(0, 1)}, {c, kids(math.MaxInt)}, {c, kids(math.MinInt)}, {kids(0)}, {kids(1), c}, {c, kids(0), kids(0, 1)}, {c, next, kids(0, 2), kids(2)}, slices.Repeat(note, 401),
		// Wrong fields, also of comments.
		{{}}, {{Kind: 17}}, {{Kind: -34, Text: "# c"}}, {{Kind: impl.SComment}}, {{Kind: impl.SComment, Text: "c"}}, {{Kind: impl.SComment, Text: "# c\n"}}, {{Kind: impl.SComment, Text: "# c", Op: 1}}, {{Kind: impl.SComment, Text: "# c", Other: "# c"}}, {c, {Kind: impl.SComment, Text: "# c", Kids: []int{0}}},
		block(single(impl.SComment, "")), block(x, single(impl.SComment, "c")), program(single(impl.SComment, "#\n")), block(note, single(impl.SNext, "next")), block(note, joined(impl.Node{Kind: impl.SNext}, note)), block(note, joined(impl.Node{Kind: impl.SExpr, Op: 1}, nameTree("x"))), block(note, stmt(impl.SExpr, nameTree("if"))), block(note, stmt(impl.SWhile, nameTree("a"))), block(note, joined(impl.Node{Kind: impl.SPrint, Op: 1})),
		append(block(note)[:1], impl.Node{Kind: impl.SBlock, Op: 1, Kids: []int{0}}), append(block(note)[:1], impl.Node{Kind: impl.PProgram, Text: "x", Kids: []int{0}}), program(note, rule(3, block(note))), program(note, joined(impl.Node{Kind: impl.IFunc, Text: "sin"}, block())),
		// Comments and other nodes where they may not be.
		stmt(impl.SExpr, note), stmt(impl.SIf, nameTree("a"), note), stmt(impl.SIf, note, block()), stmt(impl.SIf, nameTree("a"), block(), note), stmt(impl.SDo, note, nameTree("a")), stmt(impl.SExit, note), stmt(impl.IBegin, note), rule(2, note), rule(1, note), joined(impl.Node{Kind: impl.IFunc, Text: "f"}, note, block()), stmt(impl.SFor, note, note, note, block()), joined(impl.Node{Kind: impl.SPrint}, note), callTree("f", note), unaryTree(impl.TkNot, note),
		block(note, nameTree("x")), block(note, single(impl.ENone, "")), program(note, x), program(note, block()), program(note, program()), block(note, stmt(impl.IBegin, block())), block(note, program()), program(rule(1, note)), program(stmt(impl.IBegin, stmt(impl.SBlock, stmt(impl.SExpr, note)))),
	}
	for _, l := range invalid {
		if checkNoComments(t, right, l) || impl.TreeOk(l) {
			t.Errorf("%s is valid", nodesShown(l))
		}
	}
	// They are not valid beside others either.
	for _, l := range invalid[2:] {
		for _, whole := range [][]impl.Node{append(cloned(l), impl.Node{Kind: impl.SBlock, Kids: []int{len(l) - 1}}), block(note, l[len(l)-1:], note), program(note, stmt(impl.IBegin, block(x, l[len(l)-1:])))} {
			checkNoComments(t, right, whole)
		}
	}
}

func TestP13NoCommentsOfRandomChanges(t *testing.T) {
	t.Parallel()
	random := rand.New(rand.NewPCG(14, 5))
	m := newNodeMaker(random)
	c := &commenter{random: random, most: 2}
	invalid := 0
	for round := range 6000 {
		l := c.tree(randomProgram(m, round%60, 4+round%12), 0)
		if round%2 == 0 {
			plain := m.tree([]int{impl.PProgram, impl.SBlock, impl.SIf}[round%3], 1+round%60, 4+round%12)
			l = c.tree(plain, len(plain)-1)
		}
		changeNode(random, &l[random.IntN(len(l))])
		if !checkNoComments(t, m.c, l) {
			invalid++
		}
		changeNode(random, &l[random.IntN(len(l))])
		checkNoComments(t, m.c, l)
	}
	if invalid < 2000 || invalid > 5900 {
		t.Error(invalid, "of 6000 trees are not valid")
	}
}

// TestP13NoCommentsAtTheLimits has trees that are as large or as deep as they may be,
// and larger or deeper by a comment.
func TestP13NoCommentsAtTheLimits(t *testing.T) {
	right := newRightCheck()
	note, next := single(impl.SComment, "# c"), single(impl.SNext, "")
	for n := 390; n <= 410; n++ {
		for _, others := range []int{0, 1, 7, n - 2, n - 1} {
			notes := slices.Repeat([][]impl.Node{note}, n-1-others)
			l := block(append(append(notes[:len(notes)/2:len(notes)/2], slices.Repeat([][]impl.Node{next}, others)...), notes[len(notes)/2:]...)...)
			if checkNoComments(t, right, l) != (n <= maxNodesWanted) {
				t.Errorf("%d nodes, %d of them comments", n, len(notes))
			}
			if got := impl.NoComments(l); n <= maxNodesWanted && len(got) != others+1 {
				t.Errorf("NoComments of %d nodes, %d of them comments, has %d nodes", n, len(notes), len(got))
			}
		}
		l := program(slices.Repeat([][]impl.Node{note}, n-1)...)
		if got := impl.NoComments(l); n <= maxNodesWanted && !sameNodes(got, program()) || n > maxNodesWanted && len(got) > 0 {
			t.Errorf("NoComments of %d nodes of a program: %s", n, nodesShown(got))
		}
	}
	for depth := 1; depth <= 43; depth++ {
		l := nested(note, impl.Node{Kind: impl.SBlock}, depth-1)
		if checkNoComments(t, right, l) != (depth <= maxDepthWanted) {
			t.Errorf("a comment at depth %d", depth)
		}
		if got := impl.NoComments(l); depth > 1 && depth <= maxDepthWanted && !sameNodes(got, nested(block(), impl.Node{Kind: impl.SBlock}, depth-2)) {
			t.Errorf("NoComments of a comment at depth %d: %s", depth, nodesShown(got))
		}
	}
}

func TestP13ArgumentsStayAndResultsAreNew(t *testing.T) {
	random := rand.New(rand.NewPCG(14, 6))
	m := newNodeMaker(random)
	lists := [][]impl.Node{nil, single(impl.SComment, "# c"), ruleExample(), ruleExample()[:5], ruleExample()[1:], block(single(impl.SComment, "# c")), {{Kind: impl.SComment, Text: "# c", Kids: []int{7}}}}
	for round := range 300 {
		plain := randomProgram(m, round%60, 4+round%12)
		c := &commenter{random: random, most: round % 3}
		lists = append(lists, c.tree(plain, len(plain)-1))
	}
	for _, l := range lists {
		short, unchanged := spare(l)
		want := cloned(impl.NoComments(short))
		got := impl.NoComments(short)
		for i, n := range got {
			for k := range n.Kids[:cap(n.Kids)] {
				n.Kids[:cap(n.Kids)][k] = -i - 1
			}
		}
		for i, n := range got {
			for _, kid := range n.Kids[:cap(n.Kids)] {
				if kid != -i-1 {
					t.Errorf("two lists of kids of %s share memory", nodesShown(l))
				}
			}
		}
		for i := range got {
			got[i].Text = "changed"
		}
		texts := impl.TreeComments(short)
		for i := range texts[:cap(texts)] {
			texts[:cap(texts)][i] = "changed"
		}
		if !unchanged() || !sameNodes(impl.NoComments(short), want) {
			t.Errorf("%s was changed", nodesShown(l))
		}
	}
	for _, s := range []string{"", "# a", "a # b\n# c", "{ a } # d"} {
		l := append(lexed(t, s), impl.Token{Kind: impl.TkComment, Text: "unused"})
		before := slices.Clone(l)
		texts := impl.TokenComments(l[:len(l)-1])
		for i := range texts[:cap(texts)] {
			texts[:cap(texts)][i] = "changed"
		}
		if !slices.Equal(l, before) || slices.Contains(impl.TokenComments(l), "changed") {
			t.Errorf("the tokens of %q were changed", s)
		}
		first, fault := impl.Parse(s)
		for i := range first {
			first[i].Text = "changed"
		}
		second, again := impl.Parse(s)
		if fault != again || slices.ContainsFunc(second, func(n impl.Node) bool { return n.Text == "changed" }) {
			t.Errorf("Parse of %q was changed", s)
		}
	}
}

// TestP10ShortTexts has all short texts over some bytes, and over some pieces in a
// block.
func TestP10ShortTexts(t *testing.T) {
	t.Parallel()
	c, right := newProgramCheck(), newRightCheck()
	faults := map[int]int{}
	check := func(s string) {
		faults[c.checkText(t, s).fault.Kind]++
		checkAnyText(t, right, s)
	}
	for _, s := range wordsOver("a{}#\n; ", 5) {
		check(s)
	}
	for _, s := range wordsOver("a/\"\\\n1=", 5) {
		check(s)
	}
	pieces := []string{"if(a)", "else", "# c\n", "\n", ";", "b", "{", "}", "&&", ",", "while(a)", "do", "@"}
	lists := [][]string{nil}
	for range 4 {
		var longer [][]string
		for _, list := range lists {
			for _, piece := range pieces {
				longer = append(longer, append(slices.Clone(list), piece))
			}
		}
		lists = longer
		for _, list := range lists {
			check("{ " + strings.Join(list, " ") + " }")
		}
	}
	if faults[impl.FtNone] < 3000 || faults[impl.FtLex] < 5000 || faults[impl.FtSyntax] < 20000 {
		t.Error(faults)
	}
}

// TestP10ChangedTexts has programs with one byte changed, and with two.
func TestP10ChangedTexts(t *testing.T) {
	t.Parallel()
	c, right := newProgramCheck(), newRightCheck()
	m := newTextMaker(rand.New(rand.NewPCG(14, 7)))
	faults := map[int]int{}
	for round := range 1500 {
		s, tokens, _ := m.program(round, 50)
		for _, changed := range m.changed(s) {
			if len(tokens) < 100 {
				faults[c.checkText(t, changed).fault.Kind]++
			}
			checkAnyText(t, right, changed)
			for _, again := range m.changed(changed) {
				checkAnyText(t, right, again)
			}
		}
		checkAnyText(t, right, s[:m.random.IntN(len(s)+1)])
		checkAnyText(t, right, s[m.random.IntN(len(s)+1):])
	}
	if faults[impl.FtNone] < 1000 || faults[impl.FtLex] < 500 || faults[impl.FtSyntax] < 1000 {
		t.Error(faults)
	}
}

func TestP10RandomTexts(t *testing.T) {
	t.Parallel()
	right := newRightCheck()
	random := rand.New(rand.NewPCG(14, 8))
	samples := append(sampleTokens(), wordsOf("{ } ( ) ; ; a if while do else for in print")...)
	often := "\n;#{}()[],\"/ +-=<>!&|~^?:$.1eax_"
	faults := map[int]int{}
	for round := range 30000 {
		var b []byte
		for range random.IntN(1 + round%60) {
			switch round % 3 {
			case 0:
				b = append(b, byte(random.IntN(256)))
			case 1:
				b = append(b, often[random.IntN(len(often))])
			default:
				b = append(b, samples[random.IntN(len(samples))].Text...)
				b = append(b, " \n"[random.IntN(6)/5])
			}
		}
		faults[checkAnyText(t, right, string(b)).Kind]++
	}
	if faults[impl.FtNone] < 1000 || faults[impl.FtLex] < 10000 || faults[impl.FtSyntax] < 5000 {
		t.Error(faults)
	}
	for _, s := range []string{everyByte(), strings.Repeat("\x00", 3000), strings.Repeat("\xff", 3001), strings.Repeat("a", 1<<20), strings.Repeat("(", 3000), strings.Repeat("{", 3000), strings.Repeat("if(a)", 600), strings.Repeat("#\n", 1500), strings.Repeat("!", 2999) + "a", strings.Repeat("\\\n", 1500)} {
		checkAnyText(t, right, s)
	}
}

// TestP10OrderOfFaultsInTexts has several faults in one text.
func TestP10OrderOfFaultsInTexts(t *testing.T) {
	many := strings.Repeat("a;", 200)
	loops := "{ " + strings.Repeat("while(a)", 18) + "b }"
	open := strings.Repeat("(", 41)
	long := strings.Repeat(" ", 2990)
	for _, x := range []struct {
		s        string
		kind, at int
	}{
		{"x = \"a", impl.FtLex, 4}, {"x = \"a\n y = \"b\"", impl.FtLex, 4}, {"} x = \"a", impl.FtLex, 6}, {"}\n\n\n@", impl.FtLex, 4}, {"{ if (a) b else c }\n`", impl.FtLex, 20}, {"{ x y = 1 } abcdefghijklm", impl.FtLex, 12}, {"a b = c # d\n\\", impl.FtLex, 12}, {") . 1", impl.FtLex, 2}, {"} //", impl.FtLex, 2}, {"} & }", impl.FtLex, 2}, {"@ }", impl.FtLex, 0}, {"@ @", impl.FtLex, 0}, {"}\\", impl.FtLex, 1}, {"{ \x00 } }", impl.FtLex, 2}, {"} 'a'", impl.FtLex, 2},
		{open + "@", impl.FtLex, 41}, {"@" + open, impl.FtLex, 0}, {many + "@", impl.FtLex, 400}, {loops + "@", impl.FtLex, len(loops)}, {many + "} @", impl.FtLex, 402}, {"} # @\n@", impl.FtLex, 6}, {"} \"@\" \"", impl.FtLex, 6},
		{"} # @", impl.FtSyntax, 0}, {"} \"@\"", impl.FtSyntax, 0}, {"a /@/", impl.FtLex, 3}, {"a ~ /@/ }", impl.FtSyntax, 8}, {"# @\n}", impl.FtSyntax, 4},
		{open, impl.FtDeep, 40}, {"} " + open, impl.FtDeep, 42}, {open + "}", impl.FtDeep, 40}, {many + "}" + open, impl.FtDeep, 441}, {loops + open, impl.FtDeep, len(loops) + 40}, {"a b = c;" + open, impl.FtDeep, 48},
		{many + "}", impl.FtSyntax, 400}, {loops + "}", impl.FtSyntax, len(loops)}, {many, impl.FtLarge, 0}, {many + loops, impl.FtLarge, 0}, {loops, impl.FtDeep, 0}, {strings.Repeat("! ", 40) + "a", impl.FtDeep, 0},
		{strings.Repeat("#\n", 400), impl.FtLarge, 0}, {"{" + strings.Repeat("#\n", 400) + "}", impl.FtLarge, 0}, {strings.Repeat("#\n", 399) + "}", impl.FtSyntax, 798},
		{long + "a #345678@", impl.FtNone, 0}, {long + "a #345678@@", impl.FtLarge, 0}, {"@" + long + "a #345678@", impl.FtLarge, 0}, {"} @" + strings.Repeat("(", 2997), impl.FtLex, 2}, {"} @" + strings.Repeat("(", 2998), impl.FtLarge, 0}, {strings.Repeat("(", 3000), impl.FtDeep, 40}, {strings.Repeat("(", 3001), impl.FtLarge, 0},
		{long + "} 3456789", impl.FtSyntax, 2990}, {long + "= \"567890", impl.FtLex, 2992}, {long + "{ 3456789\n", impl.FtSyntax, 3000}, {long + "{ 345678 \n", impl.FtSyntax, 3000}, {long + "{ 345678 \n\n", impl.FtLarge, 0},
	} {
		want := faultOf(x.kind, x.at)
		if x.kind == impl.FtNone {
			want = parseWanted{tree: program(rule(1, nameTree("a")), single(impl.SComment, "#345678@"))}
		}
		checkText(t, x.s, want)
	}
}

// TestP10LexicalFaults has a token that is none behind, inside and before programs.
func TestP10LexicalFaults(t *testing.T) {
	t.Parallel()
	m := newTextMaker(rand.New(rand.NewPCG(14, 9)))
	for round := range 1500 {
		s, tokens, _ := m.program(round, 60)
		at := 0
		if i := m.random.IntN(len(tokens) + 1); i > 0 && tokens[i-1].Kind != impl.TkComment {
			at = tokens[i-1].At + len(tokens[i-1].Text)
		}
		for _, bad := range []string{" @", " `a", " \x80", " . ", " abcdefghijklm", " & ", " '"} {
			changed := s[:at] + bad + s[at:]
			if len(changed) <= maxTextWanted {
				checkText(t, changed, faultOf(impl.FtLex, at+1))
			}
		}
	}
}

// endedText is a text behind which more can stand: without a comment that would go on.
func endedText(s string, tokens []impl.Token) string {
	if len(tokens) > 0 && tokens[len(tokens)-1].Kind == impl.TkComment {
		return s + "\n"
	}
	return s
}

func TestP10BehindATextOfAProgram(t *testing.T) {
	t.Parallel()
	m := newTextMaker(rand.New(rand.NewPCG(14, 10)))
	texts := []string{"", "a", "a, b", "a {}", "{}", "BEGIN {}", "END { x }", "function f() {}", "{ if (a) b }", "a in b", "length", "a /b/ c", "/r/", "a++", "\"s\"", "1", "{ print > \"f\" }"}
	changed := 0
	check := func(s string, want parseWanted) {
		for range 10 {
			end := ""
			for range m.random.IntN(8) {
				end += []string{"\n", " ", "\t", ";", "\\\n"}[m.random.IntN(5)]
			}
			if len(s+end) > maxTextWanted-20 {
				continue
			}
			checkText(t, s+end, want)
			checkText(t, s+end+"# last", sized(withNotes(want.tree, "# last"), 0))
			checkText(t, s+end+"#\n;# last\n"+end, sized(withNotes(want.tree, "#", "# last"), 0))
			changed++
		}
	}
	c := newProgramCheck()
	for _, s := range texts {
		check(s, c.checkText(t, s))
		check(s+"\n# a\n", c.checkText(t, s+"\n# a\n"))
	}
	for round := range 1500 {
		s, tokens, want := m.program(round, 60)
		if want.fault == (impl.Fault{}) {
			check(endedText(s, tokens), want)
		}
	}
	if changed < 12000 {
		t.Error("only", changed, "texts")
	}
	for _, x := range []struct {
		s    string
		want parseWanted
	}{
		// A comment at the end goes on with what is in its line, and a line that ends with
		// a backslash goes on in the next one.
		{"a # b ;", parseWanted{tree: program(rule(1, nameTree("a")), single(impl.SComment, "# b ;"))}}, {"a # b \t", parseWanted{tree: program(rule(1, nameTree("a")), single(impl.SComment, "# b \t"))}}, {"a \\", faultOf(impl.FtLex, 2)}, {"a \\\n", parseWanted{tree: program(rule(1, nameTree("a")))}}, {"a \\ \n", faultOf(impl.FtLex, 2)},
		{"a +", faultOf(impl.FtSyntax, 3)}, {"a + \n", faultOf(impl.FtSyntax, 4)}, {"a +;", faultOf(impl.FtSyntax, 3)}, {"a + ", faultOf(impl.FtSyntax, 3)}, {"{ a \n ", faultOf(impl.FtSyntax, 5)},
	} {
		checkText(t, x.s, x.want)
	}
}

// TestP10MoreLinesInTexts adds newlines and comments wherever there is a newline.
func TestP10MoreLinesInTexts(t *testing.T) {
	t.Parallel()
	m := newTextMaker(rand.New(rand.NewPCG(14, 11)))
	longer := 0
	for round := range 4000 {
		s, tokens, want := m.program(round, 60)
		if want.fault != (impl.Fault{}) {
			continue
		}
		more, notes := s, 0
		for _, x := range slices.Backward(tokens) {
			if x.Kind != impl.TkNewline || m.random.IntN(3) == 0 {
				continue
			}
			lines := []string{"\n", "\n\n", "# n\n", " \n\t# n\n", "# n\n#\n\n", "\n\\\n\n"}[m.random.IntN(6)]
			notes += strings.Count(lines, "#")
			more = more[:x.At+1] + lines + more[x.At+1:]
		}
		tree, fault := impl.Parse(more)
		switch {
		case len(more) > maxTextWanted || len(want.tree)+notes > maxNodesWanted:
			checkText(t, more, faultOf(impl.FtLarge, 0))
			continue
		case fault == (impl.Fault{Kind: impl.FtDeep}) && depthWanted(withoutComments(want.tree), len(withoutComments(want.tree))-1) >= maxDepthWanted-1:
			continue
		case fault != (impl.Fault{}) || len(tree) != len(want.tree)+notes || !sameNodes(withoutComments(tree), withoutComments(want.tree)) || !sameNodes(impl.NoComments(tree), impl.NoComments(want.tree)):
			t.Errorf("Parse of %.300q: %s, %v", more, nodesShown(tree), fault)
		}
		checkComments(t, more, tree, commentTexts(lexed(t, more)))
		if len(more) > len(s) {
			longer++
		}
	}
	if longer < 2000 {
		t.Error("only", longer, "texts")
	}
}

// TestP10BodiesInTexts has programs with all bodies in braces, and with as many as
// possible without.
func TestP10BodiesInTexts(t *testing.T) {
	t.Parallel()
	m := newTextMaker(rand.New(rand.NewPCG(14, 12)))
	fewer := 0
	for round := range 3000 {
		l := randomProgram(m.nodes, 20+round%100, 6+round%20)
		braces, tokens, want := m.written(l, 0, 0, round%3)
		none, others, same := m.written(l, 0, 4, round%3)
		if want.fault != (impl.Fault{}) || same.fault != (impl.Fault{}) {
			continue
		}
		checkText(t, braces, parseWanted{tree: l})
		checkText(t, none, parseWanted{tree: l})
		if len(others) < len(tokens) {
			fewer++
		}
	}
	if fewer < 700 {
		t.Error("only", fewer, "programs with such bodies")
	}
	c := newProgramCheck()
	for _, body := range []string{"b", "print b, c", "print b > c", "next", "return b", "delete b[c]", "do b; while (c)", "while (b) c", "if (b) c", "for (b in c) d", "for (;;) b", "b = c && d", "if (b) ;"} {
		inner := "{ " + body + " }"
		for _, head := range []string{"if (a) ", "if (a)\n", "if (a) {} else ", "while (a) ", "for (a in e) ", "for (;;)\n\n", "while (a) if (e) "} {
			c.sameTexts(t, "{ "+head+body+"\n}", "{ "+head+inner+"\n}")
			c.sameTexts(t, "{ "+head+body+"; x }", "{ "+head+inner+"; x }")
			c.sameTexts(t, "{ "+head+"# c\n"+body+" }", "{ "+head+"{ # c\n"+body+" } }")
		}
		c.sameTexts(t, "{ do "+body+"; while (x) }", "{ do "+inner+" while (x) }")
	}
}

func TestP10OpenBracketsOfTexts(t *testing.T) {
	for n := 37; n <= 44; n++ {
		for _, x := range []struct{ before, open, shut, after string }{
			{"", "(", ")", ""}, {"a = ", "(", ")", "\n"}, {"BEGIN {} ", "( ", ") ", "{ a }"}, {"# (((\n", "(", ")", ""}, {"\"(([\" ", "(", ")", ""}, {"/((/ ~ ", "(", ")", ""}, {"(a) (b) ", "(", ")", ""}, {"f(a) g[b] ", "(\t", "\\\n)", "# )"},
		} {
			s := x.before + strings.Repeat(x.open, n) + "y" + strings.Repeat(x.shut, n) + x.after
			if n > maxOpenWanted {
				checkText(t, s, faultOf(impl.FtDeep, len(x.before)+maxOpenWanted*len(x.open)))
				checkText(t, s+"\n@", faultOf(impl.FtLex, len(s)+1))
				continue
			}
			tree, fault := impl.Parse(s)
			same, none := impl.Parse(x.before + "(y)" + x.after)
			if fault != (impl.Fault{}) || none != fault || len(tree) == 0 || !sameNodes(tree, same) {
				t.Errorf("Parse of %q: %s, %v", s, nodesShown(tree), fault)
			}
		}
		// Brackets of each sort, which are never closed.
		for _, open := range []string{"(", "[", "{", "([", "{(", "f(", "if(", "x["} {
			s := strings.Repeat(open, n)
			brackets := 0
			for i := range s {
				if strings.ContainsRune("([{", rune(s[i])) {
					if brackets++; brackets == maxOpenWanted+1 {
						checkText(t, s, faultOf(impl.FtDeep, i))
						checkText(t, "}"+s, faultOf(impl.FtDeep, i+1))
					}
				}
			}
		}
	}
}
