package tests

import (
	"math"
	"math/rand/v2"
	"slices"
	"strings"
	"testing"

	"loop.example/g01543/impl"
)

// The tests of this file check P10, as far as ParseTokens goes. The grammar of
// statements is added below to that of expressions (see the tests of chapter 11), so
// that the parser for any grammar tells the first token that is not permitted, and
// the tree. It knows no order of trying: what may stand ahead of an else, and behind
// which statements a line must end, is in the names of the lines.

// programRules are the lines of the grammar of programs. A statement is shut if any
// token may follow it, and open if only one of EndsStmt may; it ends in if where an
// else behind it would belong to it.
func programRules() []ruleWanted {
	l := append(rulesWanted(), []ruleWanted{
		{"mark", 0, "newline"}, {"mark", 0, "comment"}, {"mark", 0, ";"},
		{"sep", 0, ""}, {"sep", 0, "sep mark"},
		{"program", impl.PProgram, "items"}, {"program", impl.PProgram, "items pattern"},
		{"items", 0, ""}, {"items", 0, "items mark"}, {"items", 0, "items item"}, {"items", 0, "items pattern mark"},
		{"item", impl.IBegin, "BEGIN block"}, {"item", impl.IEnd, "END block"},
		{"item", impl.IFunc, "function name ( ) nl block"}, {"item", impl.IFunc, "function name ( params ) nl block"},
		{"item", impl.IFunc, "function func ( ) nl block"}, {"item", impl.IFunc, "function func ( params ) nl block"},
		{"item", impl.IRule, "block"}, {"item", impl.IRule, "1 block"}, {"item", impl.IRange, "1 , nl 1 block"},
		{"pattern", impl.IRule, "1"}, {"pattern", impl.IRange, "1 , nl 1"},
		{"param", impl.EName, "name"},
		{"block", impl.SBlock, "{ stmts }"}, {"block", impl.SBlock, "{ stmts open }"}, {"block", impl.SBlock, "{ stmts openif }"},
		{"stmts", 0, ""}, {"stmts", 0, "stmts mark"}, {"stmts", 0, "stmts block"}, {"stmts", 0, "stmts shut"}, {"stmts", 0, "stmts shutif"}, {"stmts", 0, "stmts open mark"}, {"stmts", 0, "stmts openif mark"},
		{"shutbody", 0, "nl block"}, {"shutbody", impl.SBlock, "nl ;"},
		{"open", impl.SDo, "do shutbody sep while ( 1 )"}, {"open", impl.SDo, "do shutifbody sep while ( 1 )"},
		{"open", impl.SDo, "do openbody mark sep while ( 1 )"}, {"open", impl.SDo, "do openifbody mark sep while ( 1 )"},
		{"init", impl.ENone, ""}, {"init", 0, "1!in"}, {"other", impl.ENone, ""}, {"other", 0, "1"},
		{"open", impl.SNext, "next"}, {"open", impl.SBreak, "break"}, {"open", impl.SContinue, "continue"},
		{"open", impl.SExit, "exit"}, {"open", impl.SExit, "exit 1"}, {"open", impl.SReturn, "return"}, {"open", impl.SReturn, "return 1"},
		{"open", impl.SDelete, "delete name"}, {"open", impl.SDelete, "delete name [ list ]"}, {"open", impl.SExpr, "1"},
	}...)
	for _, ends := range []string{"shut", "shutif", "open", "openif"} {
		body := ends + "body"
		l = append(l, []ruleWanted{
			{body, impl.SBlock, "nl " + ends},
			{ends, impl.SWhile, "while ( 1 ) " + body},
			{ends, impl.SFor, "for ( init ; nl other ; nl other ) " + body},
			{ends, impl.SForIn, "for ( name in name ) " + body},
			{ends, impl.SIf, "if ( 1 ) shutbody sep else " + body}, {ends, impl.SIf, "if ( 1 ) openbody mark sep else " + body},
			{strings.TrimSuffix(ends, "if") + "if", impl.SIf, "if ( 1 ) " + body},
		}...)
	}
	for _, to := range []string{"", " > 9", " >> 9", " | 9"} {
		l = append(l, ruleWanted{"open", impl.SPrint, "print" + to}, ruleWanted{"open", impl.SPrint, "print args" + to}, ruleWanted{"open", impl.SPrint, "printf args" + to})
	}
	for n := range maxArgsWanted {
		l = append(l, ruleWanted{"args", 0, "1!>" + strings.Repeat(" , nl 1!>", n)}, ruleWanted{"params", 0, "param" + strings.Repeat(" , nl param", n)})
	}
	return l
}

// headOf sets the fields of a node of a statement or an item by its own tokens and
// its kids.
func (p pieces) headOf(n impl.Node) impl.Node {
	var names []string
	for _, x := range p.tokens {
		switch x.Kind {
		case impl.TkName, impl.TkFunc:
			names = append(names, x.Text)
		case impl.TkGt, impl.TkAppend, impl.TkPipe:
			n.Other = x.Text
		case impl.TkPrintf:
			n.Op = 1
		}
	}
	if len(names) > 0 {
		n.Text = names[0]
	}
	if len(names) > 1 {
		n.Other = names[1]
	}
	if n.Kind == impl.IRule || n.Kind == impl.IRange {
		if p.nodes[0].node.Kind != impl.SBlock {
			n.Op++
		}
		if p.nodes[len(p.nodes)-1].node.Kind == impl.SBlock {
			n.Op += 2
		}
	}
	return n
}

// planter adds to the nodes of a program those of its comments. Each comes ahead of
// the first of these that is behind it: the start of a statement or an item, and the
// end of the program or of a block with an end of its own.
type planter struct {
	l    []impl.Token
	next int // the first token whose comment has no node
}

// comments returns the comments up to a token.
func (x *planter) comments(to int) [][]impl.Node {
	var l [][]impl.Node
	for ; x.next < to; x.next++ {
		if x.l[x.next].Kind == impl.TkComment {
			l = append(l, single(impl.SComment, x.l[x.next].Text))
		}
	}
	return l
}

func (x *planter) tree(from twig) []impl.Node {
	var kids [][]impl.Node
	places := from.node.Kind == impl.SBlock || from.node.Kind == impl.PProgram
	for _, kid := range from.kids {
		if places {
			kids = append(kids, x.comments(kid.from)...)
		}
		kids = append(kids, x.tree(kid))
	}
	switch {
	case from.node.Kind == impl.PProgram:
		kids = append(kids, x.comments(len(x.l))...)
	case places && slices.Contains([]string{"}", ";"}, x.l[from.to-1].Text):
		kids = append(kids, x.comments(from.to-1)...)
	}
	return joined(from.node, kids...)
}

// programCheck tells results of ParseTokens by the grammar.
type programCheck struct {
	g      *grammar
	start  int
	lex    lexCheck
	tokens tokenCheck
}

func newProgramCheck() programCheck {
	g := grammarOf(programRules())
	return programCheck{g, g.number(symbol{name: "program"}), newLexCheck(), newTokenCheck()}
}

// result is what ParseTokens should return for the tokens of a chart, which are the
// beginning of a program.
func (c chart) program(t *testing.T) parseWanted {
	t.Helper()
	trees := c.trees()
	switch len(trees) {
	case 0:
		return faultOf(impl.FtSyntax, offsetWanted(c.l, len(c.l)))
	case 1:
		x := &planter{l: c.l}
		return sized(x.tree(trees[0][0]), 0)
	}
	t.Errorf("%q has %d derivations", textOf(c.l), len(trees))
	return parseWanted{}
}

func (c programCheck) want(t *testing.T, l []impl.Token) parseWanted {
	t.Helper()
	if !c.lex.okWanted(c.tokens, l) {
		return faultOf(impl.FtLex, 0)
	}
	if i := nestWanted(l); i >= 0 {
		return faultOf(impl.FtDeep, l[i].At)
	}
	chart := chartFrom(c.g, c.start)
	for _, x := range l {
		if chart = chart.with(x); !chart.viable() {
			return faultOf(impl.FtSyntax, x.At)
		}
	}
	return chart.program(t)
}

// checkProgram checks a result of ParseTokens.
func checkProgram(t *testing.T, l []impl.Token, want parseWanted) {
	t.Helper()
	tree, fault := impl.ParseTokens(l)
	if fault != want.fault || !sameNodes(tree, want.tree) {
		t.Errorf("ParseTokens of %.300q: %s, want %s", textOf(l), parseWanted{tree, 0, fault}.shownResult(), want.shownResult())
	}
}

func (c programCheck) check(t *testing.T, l []impl.Token) parseWanted {
	t.Helper()
	want := c.want(t, l)
	checkProgram(t, l, want)
	return want
}

// programWalk has each list of tokens, up to a length, of which all but the last ones
// are the beginning of a program.
type programWalk struct {
	t        *testing.T
	alphabet [][]impl.Token
	accepted int
	faults   int
}

// with checks the tokens of a chart with a group of tokens behind them, and returns
// the chart of these.
func (w *programWalk) with(c chart, group ...impl.Token) chart {
	var want parseWanted
	for _, x := range group {
		x.At = offsetWanted(c.l, len(c.l)) + len(c.l)%3
		viable := c.viable()
		c = c.with(x)
		if viable && !c.viable() {
			want = faultOf(impl.FtSyntax, x.At)
		}
	}
	if c.viable() {
		want = c.program(w.t)
	}
	checkProgram(w.t, c.l, want)
	if want.fault == (impl.Fault{}) {
		w.accepted++
	} else {
		w.faults++
	}
	return c
}

// visit goes on from the tokens of a chart. The last lists also have a brace behind
// them, since most programs end with one.
func (w *programWalk) visit(c chart, more int) {
	previous := 0
	if len(c.l) > 0 {
		previous = c.l[len(c.l)-1].Kind
	}
	for _, group := range w.alphabet {
		if len(followers(group[:1], previous)) == 0 {
			continue
		}
		next := w.with(c, group...)
		switch {
		case !next.viable():
		case more > 1:
			w.visit(next, more-1)
		case group[0].Kind != impl.TkComment:
			w.with(next, wordsOf("}")...)
		}
	}
}

// walk goes on from the tokens of a text.
func (w *programWalk) walk(c programCheck, text string, more int) {
	w.t.Helper()
	start := chartFrom(c.g, c.start)
	for _, x := range codeOf(text) {
		start = start.with(x)
	}
	if !start.viable() {
		w.t.Errorf("%q is not the beginning of a program", text)
		return
	}
	w.visit(start, more)
}

// beginnings has a beginning of a program for each place between two tokens.
func beginnings() []string {
	return []string{
		"", "a", "a ,", "a , NL", "a , b", "a { }", "a , b { }", "{ }", "BEGIN", "BEGIN { }", "END", "function", "function f", "function &f", "function f (", "function f ( a", "function f ( a ,", "function f ( a , NL", "function f ( a )", "function &f ( )", "function f ( ) NL", "function f ( ) { }", "NL #c NL", ";",
		"{", "{ a", "{ a ;", "{ a NL", "{ NL", "{ #c NL", "{ {", "{ { }", "{ }", "{ if", "{ if (", "{ if ( a", "{ if ( a )", "{ if ( a ) NL", "{ if ( a ) ;", "{ if ( a ) { }", "{ if ( a ) b", "{ if ( a ) b ;", "{ if ( a ) b NL #c NL ;", "{ if ( a ) b ; else", "{ if ( a ) b ; else NL", "{ if ( a ) b ; else c", "{ if ( a ) b ; else c ;", "{ if ( a ) b ; else { }",
		"{ while", "{ while (", "{ while ( a", "{ while ( a )", "{ while ( a ) ;", "{ while ( a ) b", "{ while ( a ) { }", "{ do", "{ do NL", "{ do a", "{ do a ;", "{ do { }", "{ do ;", "{ do ; NL", "{ do a ; while", "{ do a ; while ( b", "{ do a ; while ( b )", "{ do if ( a ) b ; while ( c )",
		"{ for", "{ for (", "{ for ( ;", "{ for ( ; NL", "{ for ( ; ;", "{ for ( ; ; NL", "{ for ( ; ; )", "{ for ( a", "{ for ( a in", "{ for ( a in b", "{ for ( a in b )", "{ for ( a in b ) c", "{ for ( a ;", "{ for ( a ; b", "{ for ( a ; b ;", "{ for ( a ; b ; c", "{ for ( a ; b ; c ) d",
		"{ print", "{ print a", "{ print a ,", "{ print a , NL", "{ print a , b", "{ print >", "{ print a >>", "{ print a > b", "{ print ( a", "{ print ( a , b", "{ print ( a , b )", "{ print a , b , c , d , e , f", "{ printf", "{ printf a", "{ printf a ,", "{ printf a |", "{ printf a | b",
		"{ exit", "{ exit a", "{ return", "{ return a", "{ next", "{ break", "{ continue", "{ delete", "{ delete a", "{ delete a [", "{ delete a [ b", "{ delete a [ b ,", "{ delete a [ b ]",
	}
}

func TestP10ShortLists(t *testing.T) {
	t.Parallel()
	c := newProgramCheck()
	all := &programWalk{t: t, alphabet: alphabetOf("a 1 \"s\" /r/ length sin &f ( ) [ ] , = /= || in ~ > - ^ ! ++ $ ? : NL #c { } ; | >> BEGIN END function if else while for do break continue next exit return delete print printf")}
	for _, s := range beginnings() {
		all.walk(c, s, 2)
	}
	for _, s := range []string{"", "{", "{ if ( a )", "{ if ( a ) b", "{ print"} {
		all.walk(c, s, 3)
	}
	few := &programWalk{t: t, alphabet: alphabetOf("a NL #c ; { } if ( ) else while do print > , for in")}
	for _, s := range []string{"", "{", "{ if ( a ) b", "{ do a", "{ if ( a ) if ( b ) c", "{ do if ( a ) b", "{ if ( a ) while ( b )", "function f ( a )"} {
		few.walk(c, s, 4)
	}
	if all.accepted < 13000 || all.faults < 190000 || few.accepted < 3000 || few.faults < 40000 {
		t.Error(all.accepted, all.faults, few.accepted, few.faults)
	}
}

// programWriter writes the tokens of a program without comments: at random with
// newlines, comments and semicolons where the grammar has nl and sep, and without the
// braces of bodies. It notes where the comments have their nodes.
type programWriter struct {
	random *rand.Rand
	loose  looseTokens
	most   int // of newlines, comments and semicolons more than there must be, at each place
	bare   int // so many of 4 bodies that need no braces have none
	l      []impl.Node
	tokens []impl.Token
	open   bool     // one of EndsStmt must follow
	noted  []string // the comments that have no place yet
	count  int      // of comments
	before map[int][]string
	atEnd  map[int][]string
}

func newProgramWriter(random *rand.Rand) *programWriter {
	return &programWriter{random: random, loose: looseTokens{c: newTokensCheck(), random: random}}
}

// written returns the tokens of a program without comments, at some offsets, and what
// ParseTokens should return for them.
func (w *programWriter) written(l []impl.Node, most, bare int) ([]impl.Token, parseWanted) {
	*w = programWriter{random: w.random, loose: w.loose, most: most, bare: bare, l: l, before: map[int][]string{}, atEnd: map[int][]string{}}
	w.loose.pairs = most
	w.program()
	tokens := placed(w.tokens)
	if i := nestWanted(tokens); i >= 0 {
		return tokens, faultOf(impl.FtDeep, tokens[i].At)
	}
	return tokens, sized(w.tree(len(l)-1), 0)
}

func (w *programWriter) add(l ...impl.Token) {
	w.tokens = append(w.tokens, l...)
}

func (w *programWriter) words(text string) {
	w.add(wordsOf(text)...)
}

func (w *programWriter) newline() {
	w.add(impl.Token{Kind: impl.TkNewline, Text: "\n"})
}

// comment writes a comment that is unlike all others, with bytes of all sorts.
func (w *programWriter) comment() {
	starts := []string{"#", "##", "# ", "#\t\"", "#/", "#\\", "#\xff\x00", "# it's {", "#; }"}
	ends := []string{"", "  ", "\\", "\"", "\r", "\t", " # and"}
	text := starts[w.count%len(starts)] + impl.Dec(w.count) + ends[w.count%len(ends)]
	w.count++
	w.noted = append(w.noted, text)
	w.add(impl.Token{Kind: impl.TkComment, Text: text})
	w.newline()
}

func (w *programWriter) nl() {
	for range w.random.IntN(w.most + 1) {
		if w.random.IntN(3) == 0 {
			w.comment()
		} else {
			w.newline()
		}
	}
}

// sep writes marks between statements or items, at least one if need be.
func (w *programWriter) sep(least int) {
	for range max(least, w.random.IntN(w.most+1)) {
		switch w.random.IntN(2 + min(1, w.most)) {
		case 0:
			w.newline()
		case 1:
			w.words(";")
		case 2:
			w.comment()
		}
	}
}

// between writes what stands ahead of a statement or an item, an else or a while.
func (w *programWriter) between() {
	if w.open {
		w.sep(1)
	} else {
		w.sep(0)
	}
	w.open = false
}

// start notes that a statement or an item starts here.
func (w *programWriter) start(i int) {
	w.before[i] = w.noted
	w.noted = nil
}

// end notes that a block or the program ends here.
func (w *programWriter) end(i int) {
	w.atEnd[i] = w.noted
	w.noted = nil
	w.open = false
}

func (w *programWriter) expr(i int, p impl.Pos) {
	x := partOf(w.l, i)
	l := impl.ExprTokens(x, p)
	if w.most > 0 {
		l = w.loose.of(x, p)
	}
	for _, token := range l {
		// A slash behind the parenthesis of a condition would be a division.
		if n := len(w.tokens); token.Kind == impl.TkEre && n > 0 && endsOperandWanted(w.tokens[n-1].Kind) {
			w.newline()
		}
		w.add(token)
		if slices.Contains([]string{",", "||", "&&"}, token.Text) {
			w.nl()
		}
	}
}

// exprs writes a list.
func (w *programWriter) exprs(l []int, p impl.Pos) {
	for k, i := range l {
		if k > 0 {
			w.words(",")
			w.nl()
		}
		w.expr(i, p)
	}
}

func (w *programWriter) program() {
	root := len(w.l) - 1
	for _, kid := range w.l[root].Kids {
		w.between()
		w.start(kid)
		w.item(kid)
	}
	w.sep(0)
	w.end(root)
}

func (w *programWriter) item(i int) {
	n := w.l[i]
	last := n.Kids[len(n.Kids)-1]
	switch n.Kind {
	case impl.IBegin:
		w.words("BEGIN")
	case impl.IEnd:
		w.words("END")
	case impl.IFunc:
		kind := []int{impl.TkName, impl.TkFunc}[w.random.IntN(2)]
		w.words("function")
		w.add(impl.Token{Kind: kind, Text: n.Text})
		w.words("(")
		for k, param := range n.Kids[:len(n.Kids)-1] {
			if k > 0 {
				w.words(",")
				w.nl()
			}
			w.words(w.l[param].Text)
		}
		w.words(")")
		w.nl()
	case impl.IRule, impl.IRange:
		patterns := n.Kids
		if n.Op > 1 {
			patterns = n.Kids[:len(n.Kids)-1]
		}
		w.exprs(patterns, impl.Top())
		if n.Op == 1 {
			w.open = true
			return
		}
	}
	w.block(last)
}

func (w *programWriter) block(i int) {
	w.words("{")
	w.open = false
	for _, kid := range w.l[i].Kids {
		w.between()
		w.start(kid)
		w.stmt(kid, false)
	}
	w.sep(0)
	w.end(i)
	w.words("}")
}

// body writes the block of a statement. If an else of another statement follows, no
// if without an else may be the last one.
func (w *programWriter) body(i int, elseFollows bool) {
	w.nl()
	kids := w.l[i].Kids
	switch {
	case w.random.IntN(4) >= w.bare || len(kids) > 1:
	case len(kids) == 0:
		w.end(i)
		w.words(";")
		return
	case w.l[kids[0]].Kind != impl.SBlock && !(elseFollows && w.l[kids[0]].Kind == impl.SIf && len(w.l[kids[0]].Kids) == 2):
		w.start(kids[0])
		w.stmt(kids[0], elseFollows)
		return
	}
	w.block(i)
}

func (w *programWriter) condition(i int) {
	w.words("(")
	w.expr(i, impl.Top())
	w.words(")")
}

func (w *programWriter) stmt(i int, elseFollows bool) {
	n := w.l[i]
	switch n.Kind {
	case impl.SIf:
		w.words("if")
		w.condition(n.Kids[0])
		w.body(n.Kids[1], elseFollows || len(n.Kids) > 2)
		if len(n.Kids) > 2 {
			w.between()
			w.words("else")
			w.body(n.Kids[2], elseFollows)
		}
	case impl.SWhile:
		w.words("while")
		w.condition(n.Kids[0])
		w.body(n.Kids[1], elseFollows)
	case impl.SDo:
		w.words("do")
		w.body(n.Kids[0], false)
		w.between()
		w.words("while")
		w.condition(n.Kids[1])
		w.open = true
	case impl.SFor:
		w.words("for (")
		for k, after := range []string{";", ";", ")"} {
			if w.l[n.Kids[k]].Kind != impl.ENone {
				w.expr(n.Kids[k], impl.Pos{Level: 1, NoIn: k == 0})
			}
			w.words(after)
			if k < 2 {
				w.nl()
			}
		}
		w.body(n.Kids[3], elseFollows)
	case impl.SForIn:
		w.words("for ( " + n.Text + " in " + n.Other + " )")
		w.body(n.Kids[0], elseFollows)
	case impl.SBlock:
		w.block(i)
	default:
		w.simple(n)
		w.open = true
	}
}

func (w *programWriter) simple(n impl.Node) {
	switch n.Kind {
	case impl.SPrint:
		w.words([]string{"print", "printf"}[n.Op])
		args := len(n.Kids)
		if n.Other != "" {
			args--
		}
		w.exprs(n.Kids[:args], impl.Pos{Level: 1, NoGt: true})
		if n.Other != "" {
			w.words(n.Other)
			w.expr(n.Kids[args], impl.Pos{Level: impl.LvAdd})
		}
	case impl.SDelete:
		w.words("delete " + n.Text)
		if len(n.Kids) > 0 {
			w.words("[")
			w.exprs(n.Kids, impl.Top())
			w.words("]")
		}
	default:
		word := map[int]string{impl.SNext: "next", impl.SBreak: "break", impl.SContinue: "continue", impl.SExit: "exit", impl.SReturn: "return"}[n.Kind]
		w.words(word)
		w.exprs(n.Kids, impl.Top())
	}
}

// tree returns the subtree of a node with the comments that were written.
func (w *programWriter) tree(i int) []impl.Node {
	var kids [][]impl.Node
	for _, kid := range w.l[i].Kids {
		for _, text := range w.before[kid] {
			kids = append(kids, single(impl.SComment, text))
		}
		kids = append(kids, w.tree(kid))
	}
	for _, text := range w.atEnd[i] {
		kids = append(kids, single(impl.SComment, text))
	}
	return joined(w.l[i], kids...)
}

// partOf is the subtree of a node of a valid tree.
func partOf(l []impl.Node, i int) []impl.Node {
	var kids [][]impl.Node
	for _, kid := range l[i].Kids {
		kids = append(kids, partOf(l, kid))
	}
	return joined(l[i], kids...)
}

// withoutComments is a tree without the comments below other nodes.
func withoutComments(l []impl.Node) []impl.Node {
	var without func(i int) []impl.Node
	without = func(i int) []impl.Node {
		var kids [][]impl.Node
		for _, kid := range l[i].Kids {
			if l[kid].Kind != impl.SComment {
				kids = append(kids, without(kid))
			}
		}
		return joined(l[i], kids...)
	}
	return without(len(l) - 1)
}

// randomProgram is a valid program without comments.
func randomProgram(m *nodeMaker, size, depth int) []impl.Node {
	return withoutComments(m.tree(impl.PProgram, size, depth))
}

func TestP10RandomPrograms(t *testing.T) {
	t.Parallel()
	c := newProgramCheck()
	random := rand.New(rand.NewPCG(13, 1))
	m, w := newNodeMaker(random), newProgramWriter(random)
	valid, nodes, compared := 0, 0, 0
	for round := range 6000 {
		l := randomProgram(m, round%150, 4+round%20)
		tokens, want := w.written(l, round%4, round%5)
		if !c.lex.okWanted(c.tokens, tokens) {
			t.Fatalf("the tokens %q are not valid", textOf(tokens))
		}
		checkProgram(t, tokens, want)
		if want.fault == (impl.Fault{}) {
			valid++
			nodes += len(want.tree)
		}
		if len(tokens) < 80 && compared < 1500 {
			compared++
			c.check(t, tokens)
		}
	}
	if valid < 5500 || nodes < 40*valid || compared < 1500 {
		t.Error(valid, "valid programs with", nodes, "nodes,", compared, "compared")
	}
}

// TestP10WrittenPrograms has the texts of random programs, which Lex reads.
func TestP10WrittenPrograms(t *testing.T) {
	t.Parallel()
	random := rand.New(rand.NewPCG(13, 2))
	m, w := newNodeMaker(random), newProgramWriter(random)
	read := 0
	for round := range 2000 {
		tokens, want := w.written(randomProgram(m, round%150, 4+round%20), round%4, round%5)
		s := impl.Spell(tokens)
		if len(s) > maxTextWanted || want.fault.At != 0 {
			continue
		}
		l, fault := impl.Lex(s)
		if fault != (impl.Fault{}) || !sameWanted(l, tokens) {
			t.Fatalf("Lex of %q: %v, %v", s, fault, shown(l))
		}
		checkProgram(t, l, want)
		read++
	}
	if read < 1800 {
		t.Error("only", read, "texts")
	}
}

// TestP10BodiesOfOneStatement has programs with all bodies in braces, and with as many
// as possible without.
func TestP10BodiesOfOneStatement(t *testing.T) {
	t.Parallel()
	random := rand.New(rand.NewPCG(13, 3))
	m, w := newNodeMaker(random), newProgramWriter(random)
	fewer := 0
	for round := range 4000 {
		l := randomProgram(m, 20+round%130, 6+round%20)
		braces, want := w.written(l, 0, 0)
		none, other := w.written(l, 0, 4)
		if want.fault != (impl.Fault{}) || other.fault != (impl.Fault{}) {
			continue
		}
		checkProgram(t, braces, parseWanted{tree: l})
		checkProgram(t, none, parseWanted{tree: l})
		if len(none) < len(braces) {
			fewer++
		}
	}
	if fewer < 1000 {
		t.Error("only", fewer, "programs with such bodies")
	}
}

// TestP10LongerLines has programs with and without newlines and comments wherever the
// grammar has nl and sep.
func TestP10LongerLines(t *testing.T) {
	t.Parallel()
	random := rand.New(rand.NewPCG(13, 4))
	m, w := newNodeMaker(random), newProgramWriter(random)
	longer := 0
	for round := range 2000 {
		l := randomProgram(m, round%80, 4+round%20)
		few, _ := w.written(l, 0, 2)
		many, _ := w.written(l, 8, 2)
		short, fault := impl.ParseTokens(few)
		long, other := impl.ParseTokens(many)
		if fault != (impl.Fault{}) || other != (impl.Fault{}) {
			continue
		}
		if !sameNodes(short, l) || !sameNodes(withoutComments(long), l) {
			t.Errorf("ParseTokens of %.300q and %.300q differ", textOf(few), textOf(many))
		}
		if len(long) > len(short) {
			longer++
		}
	}
	if longer < 1000 {
		t.Error("only", longer, "programs with comments")
	}
}

// withNotes is the tree of a program with comments behind all its items.
func withNotes(l []impl.Node, texts ...string) []impl.Node {
	root := l[len(l)-1]
	var kids [][]impl.Node
	for _, kid := range root.Kids {
		kids = append(kids, partOf(l, kid))
	}
	for _, text := range texts {
		kids = append(kids, single(impl.SComment, text))
	}
	return joined(root, kids...)
}

// checkEnd checks that newlines, semicolons and comments behind a program change
// nothing but its comments.
func checkEnd(t *testing.T, l []impl.Token, want parseWanted, behind string) {
	t.Helper()
	if want.fault != (impl.Fault{}) {
		return
	}
	longer := placed(append(slices.Clone(l), codeOf(behind)...))
	var notes []string
	for _, word := range strings.Fields(behind) {
		if word[0] == '#' {
			notes = append(notes, word)
		}
	}
	checkProgram(t, longer, sized(withNotes(want.tree, notes...), 0))
}

func TestP10BehindTheLastItem(t *testing.T) {
	random := rand.New(rand.NewPCG(13, 5))
	m, w := newNodeMaker(random), newProgramWriter(random)
	ends := []string{"NL", ";", "NL NL", "; ;", "NL ; NL", "; #c", "NL #c", "; #c NL", "; #c NL #d NL NL ; #e", "NL ; #c NL ; NL #d NL ;"}
	for round := range 600 {
		l, want := w.written(randomProgram(m, round%60, 4+round%10), round%3, 2)
		for _, behind := range ends {
			checkEnd(t, l, want, behind)
		}
	}
	for _, behind := range append(ends, "") {
		for _, text := range []string{"", "a", "a , b", "a { }", "{ }", "BEGIN { }", "function f ( ) { }", "{ if ( a ) b }", "a NL"} {
			c := newProgramCheck()
			l := codeOf(text)
			checkEnd(t, l, c.want(t, l), behind)
		}
	}
}

// checkAnyProgram checks that a result is a valid program or a fault at a token, at
// the end or at 0.
func checkAnyProgram(t *testing.T, c rightCheck, l []impl.Token) impl.Fault {
	t.Helper()
	tree, fault := impl.ParseTokens(l)
	if fault == (impl.Fault{}) {
		if len(tree) == 0 || !c.treeWanted(tree) || tree[len(tree)-1].Kind != impl.PProgram || !impl.ProgramOk(tree) {
			t.Errorf("ParseTokens of %.300q is no valid program: %s", textOf(l), nodesShown(tree))
		}
		return fault
	}
	places := []int{0, offsetWanted(l, len(l))}
	for _, x := range l {
		places = append(places, x.At)
	}
	if len(tree) > 0 || fault.Kind < impl.FtLarge || fault.Kind > impl.FtDeep || !slices.Contains(places, fault.At) {
		t.Errorf("ParseTokens of %.300q: %s, %v", textOf(l), nodesShown(tree), fault)
	}
	return fault
}

// TestP10ChangedTokens has programs with one change, and some with several ones.
func TestP10ChangedTokens(t *testing.T) {
	t.Parallel()
	c, right := newProgramCheck(), newRightCheck()
	random := rand.New(rand.NewPCG(13, 6))
	m, w := newNodeMaker(random), newProgramWriter(random)
	samples := append(sampleTokens(), impl.Token{Kind: impl.TkNewline, Text: "\n"}, impl.Token{Kind: impl.TkSemi, Text: ";"}, impl.Token{}, impl.Token{Kind: impl.TkName, Text: "if"})
	faults := map[int]int{}
	for round := range 1500 {
		l, _ := w.written(randomProgram(m, round%40, 4+round%12), round%4, round%5)
		if len(l) == 0 {
			continue
		}
		for _, changed := range changedTokens(random, samples, l) {
			changed = placed(changed)
			if len(changed) < 100 {
				faults[c.check(t, changed).fault.Kind]++
			}
			checkAnyProgram(t, right, changed)
			if len(changed) > 0 {
				for _, again := range changedTokens(random, samples, changed) {
					checkAnyProgram(t, right, placed(again))
				}
			}
		}
	}
	if faults[impl.FtNone] < 1000 || faults[impl.FtLex] < 500 || faults[impl.FtSyntax] < 2000 {
		t.Error(faults)
	}
}

// TestP10CutPrograms has the beginnings of programs.
func TestP10CutPrograms(t *testing.T) {
	t.Parallel()
	c := newProgramCheck()
	random := rand.New(rand.NewPCG(13, 7))
	m, w := newNodeMaker(random), newProgramWriter(random)
	for round := range 100 {
		l, want := w.written(randomProgram(m, round%40, 4+round%12), round%3, round%5)
		if want.fault != (impl.Fault{}) || len(l) > 150 {
			continue
		}
		chart := chartFrom(c.g, c.start)
		for i, x := range l {
			chart = chart.with(x)
			if !chart.viable() {
				t.Fatalf("%q is not the beginning of a program", textOf(l[:i+1]))
			}
			if x.Kind != impl.TkFunc {
				checkProgram(t, l[:i+1], chart.program(t))
			}
		}
	}
}

func TestP10AnyTokens(t *testing.T) {
	right := newRightCheck()
	c := newProgramCheck()
	random := rand.New(rand.NewPCG(13, 8))
	samples := append(sampleTokens(), wordsOf("{ } ( ) ; ; a if while do else for in print")...)
	valid := 0
	for round := range 20000 {
		var l []impl.Token
		previous := 0
		for range random.IntN(20) {
			may := samples
			if round%4 > 0 {
				may = followers(samples, previous)
			}
			x := may[random.IntN(len(may))]
			previous = x.Kind
			l = append(l, x)
		}
		if checkAnyProgram(t, right, placed(l)) == (impl.Fault{}) {
			valid++
		}
	}
	if valid < 500 {
		t.Error("only", valid, "programs")
	}
	for kind := -3; kind <= 110; kind++ {
		for _, text := range []string{"", "a", "(", "1", "\n", "{", "print"} {
			x := impl.Token{Kind: kind, Text: text, At: 7}
			for _, l := range [][]impl.Token{{x}, {x, x}, append(codeOf("a"), x), append(codeOf("{ a"), x), append([]impl.Token{x}, codeOf("{ }")...)} {
				c.check(t, l)
			}
		}
	}
}

func TestP10EndsStmt(t *testing.T) {
	ends := []int{0, impl.TkNewline, impl.TkComment, impl.TkSemi, impl.TkRBrace}
	for _, kind := range append(someKinds(), 0, 1, 2, 37, 31, -1, 69, math.MinInt, math.MaxInt) {
		if impl.EndsStmt(kind) != slices.Contains(ends, kind) {
			t.Errorf("EndsStmt(%d) is %v", kind, impl.EndsStmt(kind))
		}
	}
	for kind := -1; kind <= 69; kind++ {
		want := kind == 0 || kind == 1 || kind == 2 || kind == 31 || kind == 37
		if impl.EndsStmt(kind) != want {
			t.Errorf("EndsStmt(%d) is %v", kind, !want)
		}
	}
}

func TestP10Examples(t *testing.T) {
	for _, x := range []struct{ s, same string }{
		{"{if(a)b;else c}", "{ if (a) { b } else { c } }"},
		{"x{while(a);}", "x { while (a) { } }"},
		{"{do x;while(y)}", "{do{x}while(y)\n}"},
		{"{for(;;)break}", "{\nfor (;;) {\nbreak\n}\n}"},
		{"function f(a,\nb){return a}", "function f (a, b) { return a }"},
		{"a,b", "a,\nb\n"},
		{"{print>\"f\"}", "{ print > \"f\"; }"},
		{"BEGIN{}END{}", "BEGIN { }\nEND { }"},
		{"{if(a)b\n\nelse c}", "{if(a){b}else{c}}"},
		{"{if(a){b}\n\nelse c}", "{if(a){b}else{c}}"},
		{"{if(a)if(b)c;else d}", "{if(a){if(b){c}else{d}}}"},
		{"", " \n;\t\\\n"},
	} {
		l, _ := impl.Lex(x.s)
		same, _ := impl.Lex(x.same)
		tree, fault := impl.ParseTokens(l)
		other, none := impl.ParseTokens(same)
		if fault != none || fault != (impl.Fault{}) || len(tree) == 0 || !sameNodes(tree, other) {
			t.Errorf("%q: %s, %v; %q: %s, %v", x.s, nodesShown(tree), fault, x.same, nodesShown(other), none)
		}
	}
	for _, x := range []struct {
		s  string
		at int
	}{
		{"}", 0}, {"{ x y = 1 }", 6}, {"{ if (a) b else c }", 11}, {"BEGIN x", 6}, {"{ for (k in a; b; c) d }", 13}, {"{ print a > b c }", 14}, {"{ x", 3}, {"function f(1) {}", 11}, {"{ printf }", 9},
		{"{ x #y", 6}, {"{ x \t ", 3}, {"{ x\n", 4}, {"BEGIN", 5}, {"{ if (a)\n\n", 10}, {"a,", 2}, {"{ print a, # b\n", 15}, {"{", 1}, {"function", 8}, {"function f(a", 12}, {"{ (a, b) }", 9}, {"{ delete }", 9},
	} {
		l, _ := impl.Lex(x.s)
		checkProgram(t, l, faultOf(impl.FtSyntax, x.at))
	}
}

// block, rule and program are trees with these statements and items.
func block(stmts ...[]impl.Node) []impl.Node {
	return joined(impl.Node{Kind: impl.SBlock}, stmts...)
}

func rule(op int, kids ...[]impl.Node) []impl.Node {
	return joined(impl.Node{Kind: impl.IRule, Op: op}, kids...)
}

func program(items ...[]impl.Node) []impl.Node {
	return joined(impl.Node{Kind: impl.PProgram}, items...)
}

// stmt is a tree of this kind.
func stmt(kind int, kids ...[]impl.Node) []impl.Node {
	return joined(impl.Node{Kind: kind}, kids...)
}

// names is a tree for each name.
func names(text string) [][]impl.Node {
	var l [][]impl.Node
	for _, name := range strings.Fields(text) {
		l = append(l, nameTree(name))
	}
	return l
}

// checkItems checks the items of a text, also with others ahead of them and behind.
func (c programCheck) checkItems(t *testing.T, text string, items ...[]impl.Node) {
	t.Helper()
	checkProgram(t, codeOf(text), parseWanted{tree: program(items...)})
	c.check(t, codeOf(text))
	around := append(append([][]impl.Node{rule(1, nameTree("before"))}, items...), stmt(impl.IEnd, block()))
	checkProgram(t, codeOf("before NL "+text+" ; END { }"), parseWanted{tree: program(around...)})
}

// checkStmts checks the statements of a text in a block, also with others ahead of
// them and behind.
func (c programCheck) checkStmts(t *testing.T, text string, stmts ...[]impl.Node) {
	t.Helper()
	c.checkItems(t, "{ "+text+" }", rule(2, block(stmts...)))
	around := append(append([][]impl.Node{stmt(impl.SNext)}, stmts...), stmt(impl.SReturn, nameTree("behind")))
	c.checkItems(t, "x { next ; "+text+" NL return behind }", rule(3, nameTree("x"), block(around...)))
}

// checkFault checks that a text has a syntax fault at a token, or at the end if it has
// no more tokens.
func (c programCheck) checkFault(t *testing.T, text string, i int) {
	t.Helper()
	l := codeOf(text)
	checkProgram(t, l, faultOf(impl.FtSyntax, offsetWanted(l, i)))
	c.check(t, l)
}

// checkSame checks that two texts have the same tree.
func (c programCheck) checkSame(t *testing.T, text, same string) {
	t.Helper()
	want := c.check(t, codeOf(text))
	other := c.check(t, codeOf(same))
	if want.fault != (impl.Fault{}) || other.fault != (impl.Fault{}) || !sameNodes(want.tree, other.tree) {
		t.Errorf("%q and %q have different trees: %s and %s", text, same, want.shownResult(), other.shownResult())
	}
}

func TestP10EachItem(t *testing.T) {
	c := newProgramCheck()
	a, b := nameTree("a"), nameTree("b")
	x := block(stmt(impl.SExpr, nameTree("x")))
	function := func(text string, kids ...[]impl.Node) []impl.Node {
		return joined(impl.Node{Kind: impl.IFunc, Text: text}, kids...)
	}
	ranged := func(op int, kids ...[]impl.Node) []impl.Node {
		return joined(impl.Node{Kind: impl.IRange, Op: op}, kids...)
	}
	c.checkItems(t, "BEGIN { }", stmt(impl.IBegin, block()))
	c.checkItems(t, "BEGIN { x }", stmt(impl.IBegin, x))
	c.checkItems(t, "END { }", stmt(impl.IEnd, block()))
	c.checkItems(t, "END { x }", stmt(impl.IEnd, x))
	c.checkItems(t, "{ }", rule(2, block()))
	c.checkItems(t, "{ x }", rule(2, x))
	c.checkItems(t, "a", rule(1, a))
	c.checkItems(t, "a { }", rule(3, a, block()))
	c.checkItems(t, "a { x }", rule(3, a, x))
	c.checkItems(t, "a , b", ranged(1, a, b))
	c.checkItems(t, "a , NL NL #c NL b", ranged(1, a, b), single(impl.SComment, "#c"))
	c.checkItems(t, "a , b { x }", ranged(3, a, b, x))
	c.checkItems(t, "a , NL b { }", ranged(3, a, b, block()))
	c.checkItems(t, "a NL { x }", rule(1, a), rule(2, x))
	c.checkItems(t, "a ; { x }", rule(1, a), rule(2, x))
	c.checkItems(t, "a , b NL { x }", ranged(1, a, b), rule(2, x))
	c.checkItems(t, "a NL b ; a #c NL b", rule(1, a), rule(1, b), rule(1, a), single(impl.SComment, "#c"), rule(1, b))
	c.checkItems(t, "BEGIN { } END { } { x } a { } b { } function f ( ) { } a", stmt(impl.IBegin, block()), stmt(impl.IEnd, block()), rule(2, x), rule(3, a, block()), rule(3, b, block()), function("f", block()), rule(1, a))
	c.checkItems(t, "a in b", rule(1, inTree("b", a)))
	c.checkItems(t, "( a , b ) in x , a > b", ranged(1, inTree("x", a, b), binTree(impl.TkGt, a, b)))
	c.checkItems(t, "a = b { x }", rule(3, assignTree(impl.TkAssign, a, b), x))
	c.checkItems(t, "/r/ , ! a { x }", ranged(3, ereTree("/r/"), unaryTree(impl.TkNot, a), x))
	c.checkItems(t, "function f ( ) { x }", function("f", x))
	c.checkItems(t, "function f ( ) NL #c NL { x }", function("f", block(single(impl.SComment, "#c"), stmt(impl.SExpr, nameTree("x")))))
	for n := range maxArgsWanted + 3 {
		params := names("a b a d e f g h i")[:n]
		for _, start := range []string{"function f (", "function &f ("} {
			for _, comma := range []string{" , ", " , NL ", " , NL NL "} {
				var words []string
				for _, param := range params {
					words = append(words, param[0].Text)
				}
				text := start + " " + strings.Join(words, comma) + " ) { x }"
				if n <= maxArgsWanted {
					c.checkItems(t, text, function("f", append(slices.Clone(params), x)...))
				} else {
					// The comma behind the last name that there may be.
					c.checkFault(t, text, 3+maxArgsWanted+(maxArgsWanted-1)*(len(strings.Fields(comma))))
				}
			}
		}
	}
}

func TestP10ItemFaults(t *testing.T) {
	c := newProgramCheck()
	for _, x := range []struct {
		text string
		at   int
	}{
		{"}", 0}, {"a }", 1}, {"{ } }", 2}, {"a , b }", 3}, {")", 0}, {"else", 0}, {"print a", 0}, {"if ( a ) b", 0}, {"return", 0}, {"in", 0}, {", a", 0}, {"> a", 0},
		{"BEGIN", 1}, {"BEGIN a", 1}, {"BEGIN NL { }", 1}, {"BEGIN ; { }", 1}, {"BEGIN #c NL { }", 1}, {"BEGIN , a { }", 1}, {"BEGIN BEGIN { }", 1}, {"BEGIN { } ) { }", 3}, {"END", 1}, {"END a", 1}, {"END NL { }", 1}, {"END END", 1},
		{"a BEGIN { }", 1}, {"a END { }", 1}, {"a function f ( ) { }", 1}, {"a , b BEGIN { }", 3}, {"a , b , c", 3}, {"a , b , c { }", 3}, {"a ,", 2}, {"a , NL", 3}, {"a , ;", 2}, {"a , { }", 2}, {"a , NL { }", 3}, {"a , BEGIN { }", 2}, {"a NL , b", 2}, {"a #c NL , b", 3}, {"a , b NL , c", 4},
		{"a )", 1}, {"a = { }", 2}, {"a + NL b", 2}, {"a | b", 1}, {"a >> b", 1}, {"( a , b )", 5}, {"( a , b ) { }", 5}, {"( a , b ) NL", 5}, {"a b = c", 2}, {"a < b < c { }", 3},
		{"function", 1}, {"function f", 2}, {"function 1 ( ) { }", 1}, {"function ( ) { }", 1}, {"function NL f ( ) { }", 1}, {"function length ( ) { }", 1}, {"function if ( ) { }", 1}, {"function f { }", 2}, {"function f NL ( ) { }", 2}, {"function f [ a ] { }", 2}, {"function f f ( ) { }", 2},
		{"function f (", 3}, {"function f ( 1 ) { }", 3}, {"function f ( , a ) { }", 3}, {"function f ( NL a ) { }", 3}, {"function f ( NL ) { }", 3}, {"function f ( a NL ) { }", 4}, {"function f ( a b ) { }", 4}, {"function f ( a , ) { }", 5}, {"function f ( a , NL ) { }", 6}, {"function f ( a , , b ) { }", 5},
		{"function f ( a , 1 ) { }", 5}, {"function f ( &g ( ) ) { }", 3}, {"function f ( a , &g ( ) ) { }", 5}, {"function f ( length ) { }", 3}, {"function f ( ( a ) ) { }", 3}, {"function f ( a [ 1 ] ) { }", 4}, {"function f ( a ; b ) { }", 4}, {"function f ( a , ; b ) { }", 5}, {"function f ( a", 4}, {"function f ( a ,", 5},
		{"function f ( )", 4}, {"function f ( ) NL", 5}, {"function f ( ) ; { }", 4}, {"function f ( ) NL ; { }", 5}, {"function f ( ) a", 4}, {"function f ( ) return a", 4}, {"function f ( ) }", 4}, {"function f ( ) { } )", 6}, {"function f ( ) {", 5},
		{"{", 1}, {"{ {", 2}, {"{ { }", 3}, {"{ a", 2}, {"{ a NL", 3}, {"{ a ; #c", 4}, {"{ a )", 2}, {"{ a , b }", 2}, {"{ BEGIN { } }", 1}, {"{ END { } }", 1}, {"{ function f ( ) { } }", 1}, {"{ a { } }", 2}, {"{ a NL { } , }", 5},
	} {
		c.checkFault(t, x.text, x.at)
	}
}

func TestP10EachStatement(t *testing.T) {
	c := newProgramCheck()
	a, b, d := nameTree("a"), nameTree("b"), nameTree("d")
	one := func(text string) []impl.Node { return block(stmt(impl.SExpr, nameTree(text))) }
	deleted := func(kids ...[]impl.Node) []impl.Node {
		return joined(impl.Node{Kind: impl.SDelete, Text: "a"}, kids...)
	}
	printed := func(op int, other string, kids ...[]impl.Node) []impl.Node {
		return joined(impl.Node{Kind: impl.SPrint, Op: op, Other: other}, kids...)
	}
	for _, x := range []struct {
		text string
		want []impl.Node
	}{
		{"a", stmt(impl.SExpr, a)}, {"a = b", stmt(impl.SExpr, assignTree(impl.TkAssign, a, b))}, {"a in b", stmt(impl.SExpr, inTree("b", a))}, {"a > b", stmt(impl.SExpr, binTree(impl.TkGt, a, b))}, {"/r/", stmt(impl.SExpr, ereTree("/r/"))}, {"- a", stmt(impl.SExpr, unaryTree(impl.TkSub, a))},
		{"( a , b ) in d", stmt(impl.SExpr, inTree("d", a, b))}, {"a ++", stmt(impl.SExpr, postTree(impl.TkIncr, a))}, {"&f ( )", stmt(impl.SExpr, callTree("f"))}, {"length", stmt(impl.SExpr, builtinTree("length"))},
		{"next", stmt(impl.SNext)}, {"break", stmt(impl.SBreak)}, {"continue", stmt(impl.SContinue)}, {"exit", stmt(impl.SExit)}, {"exit a", stmt(impl.SExit, a)}, {"return", stmt(impl.SReturn)}, {"return a", stmt(impl.SReturn, a)},
		{"exit a in b", stmt(impl.SExit, inTree("b", a))}, {"return a > b", stmt(impl.SReturn, binTree(impl.TkGt, a, b))}, {"return a = b", stmt(impl.SReturn, assignTree(impl.TkAssign, a, b))}, {"exit ( a )", stmt(impl.SExit, a)}, {"return /r/", stmt(impl.SReturn, ereTree("/r/"))},
		{"delete a", deleted()}, {"delete a [ b ]", deleted(b)}, {"delete a [ b , NL d ]", deleted(b, d)}, {"delete a [ a , b , d , a , b , d ]", deleted(a, b, d, a, b, d)}, {"delete a [ a in b ]", deleted(inTree("b", a))}, {"delete a [ a > b ]", deleted(binTree(impl.TkGt, a, b))},
		{"print", printed(0, "")}, {"print a", printed(0, "", a)}, {"print a , b", printed(0, "", a, b)}, {"printf a", printed(1, "", a)}, {"print > a", printed(0, ">", a)}, {"print >> a", printed(0, ">>", a)}, {"print | a", printed(0, "|", a)}, {"print a > b", printed(0, ">", a, b)}, {"printf a , b | d", printed(1, "|", a, b, d)},
		{"print ( a > b )", printed(0, "", binTree(impl.TkGt, a, b))}, {"print ( a ) > b", printed(0, ">", a, b)}, {"print a , ( a > b ) > d", printed(0, ">", a, binTree(impl.TkGt, a, b), d)}, {"print a [ a > b ] >> d", printed(0, ">>", indexTree("a", binTree(impl.TkGt, a, b)), d)}, {"print ( a , b ) in d", printed(0, "", inTree("d", a, b))},
		{"print a >= b > d", printed(0, ">", binTree(impl.TkGe, a, b), d)}, {"print a ? b : d > a", printed(0, ">", condTree(a, b, d), a)}, {"print a = b > d", printed(0, ">", assignTree(impl.TkAssign, a, b), d)}, {"print a b , d", printed(0, "", binTree(impl.OpCat, a, b), d)}, {"print ( a ) ( b )", printed(0, "", binTree(impl.OpCat, a, b))},
		{"print a > b + d", printed(0, ">", a, binTree(impl.TkAdd, b, d))}, {"print a > - b", printed(0, ">", a, unaryTree(impl.TkSub, b))}, {"print a > ( b d )", printed(0, ">", a, binTree(impl.OpCat, b, d))}, {"print a > ( b > d )", printed(0, ">", a, binTree(impl.TkGt, b, d))}, {"print a | b * d", printed(0, "|", a, binTree(impl.TkMul, b, d))},
		{"print /r/", printed(0, "", ereTree("/r/"))}, {"print - a", printed(0, "", unaryTree(impl.TkSub, a))}, {"print > /r/", printed(0, ">", ereTree("/r/"))}, {"printf ( a )", printed(1, "", a)}, {"print a in b", printed(0, "", inTree("b", a))}, {"print > $ a ++", printed(0, ">", postTree(impl.TkIncr, fieldTree(a)))},
		{"{ }", block()}, {"{ a }", one("a")}, {"{ ; a NL b ; }", block(stmt(impl.SExpr, a), stmt(impl.SExpr, b))}, {"{ { } }", block(block())}, {"{ { a } }", block(one("a"))}, {"{ { } { } next }", block(block(), block(), stmt(impl.SNext))},
		{"if ( a ) b", stmt(impl.SIf, a, one("b"))}, {"if ( a ) { b }", stmt(impl.SIf, a, one("b"))}, {"if ( a ) ;", stmt(impl.SIf, a, block())}, {"if ( a ) { }", stmt(impl.SIf, a, block())}, {"if ( a ) { } else { }", stmt(impl.SIf, a, block(), block())}, {"if ( a ) b ; else d", stmt(impl.SIf, a, one("b"), one("d"))},
		{"if ( a ) ; else ;", stmt(impl.SIf, a, block(), block())}, {"if ( a > b ) d", stmt(impl.SIf, binTree(impl.TkGt, a, b), one("d"))}, {"if ( a in b ) d", stmt(impl.SIf, inTree("b", a), one("d"))}, {"if ( ( a , b ) in d ) a", stmt(impl.SIf, inTree("d", a, b), one("a"))}, {"if ( a = b ) d", stmt(impl.SIf, assignTree(impl.TkAssign, a, b), one("d"))},
		{"if ( a ) { { b } }", stmt(impl.SIf, a, block(one("b")))}, {"if ( a ) { b ; d }", stmt(impl.SIf, a, block(stmt(impl.SExpr, b), stmt(impl.SExpr, d)))}, {"if ( a ) if ( b ) d", stmt(impl.SIf, a, block(stmt(impl.SIf, b, one("d"))))},
		{"while ( a ) b", stmt(impl.SWhile, a, one("b"))}, {"while ( a ) ;", stmt(impl.SWhile, a, block())}, {"while ( a ) { b }", stmt(impl.SWhile, a, one("b"))}, {"while ( a ) while ( b ) d", stmt(impl.SWhile, a, block(stmt(impl.SWhile, b, one("d"))))}, {"while ( a in b ) next", stmt(impl.SWhile, inTree("b", a), block(stmt(impl.SNext)))},
		{"do a ; while ( b )", stmt(impl.SDo, one("a"), b)}, {"do a NL while ( b )", stmt(impl.SDo, one("a"), b)}, {"do { a } while ( b )", stmt(impl.SDo, one("a"), b)}, {"do ; while ( b )", stmt(impl.SDo, block(), b)}, {"do { } while ( a > b )", stmt(impl.SDo, block(), binTree(impl.TkGt, a, b))}, {"do { } ; NL ; while ( b )", stmt(impl.SDo, block(), b)},
		{"do while ( a ) b ; while ( d )", stmt(impl.SDo, block(stmt(impl.SWhile, a, one("b"))), d)}, {"do while ( a ) ; while ( d )", stmt(impl.SDo, block(stmt(impl.SWhile, a, block())), d)}, {"do do a ; while ( b ) ; while ( d )", stmt(impl.SDo, block(stmt(impl.SDo, one("a"), b)), d)}, {"do if ( a ) b ; while ( d )", stmt(impl.SDo, block(stmt(impl.SIf, a, one("b"))), d)},
		{"for ( a in b ) d", joined(impl.Node{Kind: impl.SForIn, Text: "a", Other: "b"}, one("d"))}, {"for ( a in b ) ;", joined(impl.Node{Kind: impl.SForIn, Text: "a", Other: "b"}, block())}, {"for ( a in a ) { d }", joined(impl.Node{Kind: impl.SForIn, Text: "a", Other: "a"}, one("d"))},
	} {
		c.checkStmts(t, x.text, x.want)
	}
	c.checkStmts(t, "a ; b NL d", stmt(impl.SExpr, a), stmt(impl.SExpr, b), stmt(impl.SExpr, d))
	c.checkStmts(t, "if ( a ) { } b", stmt(impl.SIf, a, block()), stmt(impl.SExpr, b))
	c.checkStmts(t, "if ( a ) ; b", stmt(impl.SIf, a, block()), stmt(impl.SExpr, b))
	c.checkStmts(t, "while ( a ) { } b", stmt(impl.SWhile, a, block()), stmt(impl.SExpr, b))
	c.checkStmts(t, "while ( a ) ; b", stmt(impl.SWhile, a, block()), stmt(impl.SExpr, b))
	c.checkStmts(t, "do a ; while ( b ) ; while ( d ) next", stmt(impl.SDo, one("a"), b), stmt(impl.SWhile, d, block(stmt(impl.SNext))))
	c.checkStmts(t, "do a ; while ( b ) NL while ( d ) ;", stmt(impl.SDo, one("a"), b), stmt(impl.SWhile, d, block()))
	c.checkStmts(t, "do a ; while ( b ) #c NL while ( d ) { }", stmt(impl.SDo, one("a"), b), single(impl.SComment, "#c"), stmt(impl.SWhile, d, block()))
	c.checkStmts(t, "do { } while ( b ) ; do ; while ( d )", stmt(impl.SDo, block(), b), stmt(impl.SDo, block(), d))
	c.checkStmts(t, "{ } { } a", block(), block(), stmt(impl.SExpr, a))
	c.checkStmts(t, "return NL a", stmt(impl.SReturn), stmt(impl.SExpr, a))
	c.checkStmts(t, "exit ; a", stmt(impl.SExit), stmt(impl.SExpr, a))
	c.checkStmts(t, "print NL a", printed(0, ""), stmt(impl.SExpr, a))
	c.checkStmts(t, "delete a NL b", deleted(), stmt(impl.SExpr, b))
}

func TestP10PartsOfFor(t *testing.T) {
	c := newProgramCheck()
	parts := [][]impl.Node{assignTree(impl.TkAssign, nameTree("a"), numTree("1")), binTree(impl.TkGt, nameTree("a"), nameTree("b")), inTree("x", nameTree("a"))}
	texts := []string{"a = 1", "a > b", "a in x"}
	body := block(stmt(impl.SBreak))
	for present := range 8 {
		var words []string
		var kids [][]impl.Node
		for k := range 3 {
			if present>>k&1 == 1 {
				words, kids = append(words, texts[k]), append(kids, parts[k])
			} else {
				words, kids = append(words, ""), append(kids, single(impl.ENone, ""))
			}
		}
		// Without parentheses, no in may stand in the first part.
		want := stmt(impl.SFor, append(kids, body)...)
		for _, nl := range []string{"", "NL ", "NL NL "} {
			for _, after := range []string{"break", "{ break }", nl + "break", nl + "{ break }", "{ NL break ; }"} {
				c.checkStmts(t, "for ( "+words[0]+" ; "+nl+words[1]+" ; "+nl+words[2]+" ) "+after, want)
			}
		}
		c.checkStmts(t, "for ( "+strings.Join(words, " ; ")+" ) ;", stmt(impl.SFor, append(kids, block())...))
		for k := range 3 {
			for _, wrong := range []string{", ", ") ", "} ", "] "} {
				text := "{ for ( " + strings.Join(words[:k+1], " ; ") + " "
				if k == 2 && wrong == ") " {
					continue
				}
				c.checkFault(t, text+wrong+"; b ; d ) break }", len(codeOf(text)))
			}
		}
		text := "{ for ( " + strings.Join(words, " ; ") + " "
		c.checkFault(t, text+"; ) break }", len(codeOf(text)))
		c.checkFault(t, text, len(codeOf(text)))
		if present&4 != 0 {
			c.checkFault(t, text+"NL ) break }", len(codeOf(text)))
		}
	}
	c.checkStmts(t, "for ( ( a in b ) ; ( ( a , b ) in d ) ; ( a , b ) in d ) break", stmt(impl.SFor, inTree("b", nameTree("a")), inTree("d", names("a b")...), inTree("d", names("a b")...), body))
	c.checkStmts(t, "for ( a [ b in d ] ; a in b ; ) break", stmt(impl.SFor, indexTree("a", inTree("d", nameTree("b"))), inTree("b", nameTree("a")), single(impl.ENone, ""), body))
	c.checkStmts(t, "for ( a > b ; a > b ; a > b ) break", stmt(impl.SFor, parts[1], parts[1], parts[1], body))
	c.checkStmts(t, "for ( a = 1 ; a = 1 ; a = 1 ) break", stmt(impl.SFor, parts[0], parts[0], parts[0], body))
	for _, x := range []struct {
		text string
		at   int
	}{
		{"{ for ( a in b ; d ; e ) g }", 6}, {"{ for ( a in b ; ; ) g }", 6}, {"{ for ( a in b in d ; ; ) g }", 6}, {"{ for ( a in b && d ; ; ) g }", 6}, {"{ for ( a in b [ d ] ) g }", 6}, {"{ for ( a in b NL ) g }", 6}, {"{ for ( a in b , d ) g }", 6}, {"{ for ( a in b", 6}, {"{ for ( a in b }", 6}, {"{ for ( a in b ++ ) d }", 6},
		{"{ for ( a in", 5}, {"{ for ( a in )", 5}, {"{ for ( a in 1 ) d }", 5}, {"{ for ( a in &f ( ) ) d }", 5}, {"{ for ( a in ( b ) ) d }", 5}, {"{ for ( a in NL b ) d }", 5}, {"{ for ( a in length ) d }", 5}, {"{ for ( a in in ) d }", 5},
		{"{ for ( ( a ) in b ) d }", 6}, {"{ for ( a [ 1 ] in b ) d }", 7}, {"{ for ( 1 in b ) d }", 4}, {"{ for ( a b in d ) e }", 5}, {"{ for ( $ a in b ; ; ) d }", 5}, {"{ for ( - a in b ; ; ) d }", 5}, {"{ for ( ( a , b ) in d ; ; ) e }", 5}, {"{ for ( a = b in d ; ; ) e }", 6}, {"{ for ( a ? b in d : e ; ; ) g }", 6}, {"{ for ( a NL in b ) d }", 4}, {"{ for ( NL a in b ) d }", 3},
		{"{ for", 2}, {"{ for a", 2}, {"{ for NL ( ; ; ) a }", 2}, {"{ for (", 3}, {"{ for ( )", 3}, {"{ for ( NL ; ; ) a }", 3}, {"{ for ( a )", 4}, {"{ for ( a NL ; ; ) b }", 4}, {"{ for ( ; )", 4}, {"{ for ( ; a )", 5}, {"{ for ( ; a NL ; ) b }", 5}, {"{ for ( ; ; a NL ) b }", 6}, {"{ for ( ; ; ) }", 6}, {"{ for ( ; ; ) NL }", 7}, {"{ for ( ; ; )", 6}, {"{ for ( ; ; ) else", 6},
		{"{ for ( ; ; ; ) a }", 5}, {"{ for ( a , b ; ; ) d }", 4}, {"{ for ( a ; b , d ; ) e }", 6}, {"{ for ( a ; b ; d , e ) g }", 8}, {"{ for ( print a ; ; ) b }", 3}, {"{ for ( { } ; ; ) b }", 3}, {"{ for ( a in b ) }", 7}, {"{ for ( a in b ) )", 7},
	} {
		c.checkFault(t, x.text, x.at)
	}
}

func TestP10NumbersOfPrinted(t *testing.T) {
	c := newProgramCheck()
	for op, word := range []string{"print", "printf"} {
		for n := range maxArgsWanted + 3 {
			l := names("a b d e f g h i j")[:n]
			for _, comma := range []string{" , ", " , NL ", " , NL NL "} {
				list := strings.Join(strings.Fields("a b d e f g h i j")[:n], comma)
				for _, to := range []string{"", ">", ">>", "|"} {
					text, kids := word+" "+list, l
					if to != "" {
						text, kids = text+" "+to+" y", append(slices.Clone(l), nameTree("y"))
					}
					switch {
					case n < op:
						c.checkFault(t, "{ "+text+" }", 2)
					case n > maxArgsWanted:
						c.checkFault(t, "{ "+text+" }", 2+maxArgsWanted+(maxArgsWanted-1)*len(strings.Fields(comma)))
					default:
						c.checkStmts(t, text, joined(impl.Node{Kind: impl.SPrint, Op: op, Other: to}, kids...))
					}
				}
			}
		}
	}
	for n := range maxArgsWanted + 3 {
		list := strings.Join(strings.Fields("a b d e f g h i j")[:n], " , ")
		switch {
		case n == 0:
			c.checkFault(t, "{ delete x [ ] }", 4)
		case n > maxArgsWanted:
			c.checkFault(t, "{ delete x [ "+list+" ] }", 4+2*maxArgsWanted-1)
		default:
			c.checkStmts(t, "delete x [ "+list+" ]", joined(impl.Node{Kind: impl.SDelete, Text: "x"}, names("a b d e f g h i j")[:n]...))
		}
	}
}

func TestP10StatementFaults(t *testing.T) {
	c := newProgramCheck()
	for _, x := range []struct {
		text string
		at   int
	}{
		{"x y = 1 }", 3}, {"a b c = 1 }", 4}, {"a , b }", 2}, {"a NL = b }", 3}, {"( a , b ) }", 6}, {"a +", 3}, {"a + NL b }", 3}, {"a [ }", 3}, {"a )", 2}, {"a ]", 2}, {"a in }", 3}, {"a | b }", 2}, {"a >> b }", 2}, {"a ? b }", 4}, {"= a }", 1}, {") }", 1}, {", }", 1}, {"in a }", 1}, {"else }", 1},
		{"print a > b d }", 5}, {"print a > b > d }", 5}, {"print a >> b | d }", 5}, {"print > a > b }", 4}, {"print a > b , d }", 5}, {"print a > b < d }", 5}, {"print a > b ~ d }", 5}, {"print a > b in d }", 5}, {"print a > b && d }", 5}, {"print a > b ? d : e }", 5}, {"print a > b = d }", 5}, {"print > > a }", 3}, {"print a > }", 4}, {"print a >", 4},
		{"print a > NL b }", 4}, {"print a > ; b }", 4}, {"print > }", 3}, {"print > ( a , b ) in d }", 5}, {"print a , > b }", 4}, {"print , a }", 2}, {"print a , }", 4}, {"print a , , b }", 4}, {"print a , ; b }", 4}, {"print a NL , b }", 4}, {"print a NL > b }", 4}, {"print NL > b }", 3}, {"print NL , b }", 3}, {"print ( a , b ) }", 7}, {"print ( a , b ) > d }", 7}, {"print ( a , b ) , d }", 7},
		{"print a ? b > d : e }", 5}, {"print a = }", 4}, {"print )", 2}, {"print print }", 2}, {"print a print b }", 3}, {"print if }", 2}, {"print else }", 2}, {"print { } }", 2}, {"print a { } }", 3}, {"print a b ; , d }", 5},
		{"printf }", 2}, {"printf", 2}, {"printf ; }", 2}, {"printf NL }", 2}, {"printf #c NL }", 2}, {"printf > a }", 2}, {"printf >> a }", 2}, {"printf | a }", 2}, {"printf , a }", 2}, {"printf a , }", 4}, {"printf printf }", 2}, {"printf ( a , b ) }", 7},
		{"next a }", 2}, {"next next }", 2}, {"break a }", 2}, {"continue a }", 2}, {"next ( a ) }", 2}, {"next = a }", 2}, {"next { } }", 2}, {"next else }", 2}, {"break )", 2}, {"continue , }", 2}, {"exit = }", 2}, {"exit , a }", 2}, {"exit a , b }", 3}, {"exit a b = 1 }", 4}, {"exit exit }", 2}, {"exit )", 2}, {"exit { } }", 2}, {"return = }", 2}, {"return a , b }", 3}, {"return return }", 2}, {"return a else }", 3}, {"return a +", 4}, {"return a + NL b }", 4}, {"return ( a , b ) }", 7},
		{"delete }", 2}, {"delete", 2}, {"delete 1 }", 2}, {"delete &f ( ) }", 2}, {"delete $ a }", 2}, {"delete ( a ) }", 2}, {"delete length }", 2}, {"delete NL a }", 2}, {"delete a b }", 3}, {"delete a = 1 }", 3}, {"delete a , b }", 3}, {"delete a ( b ) }", 3}, {"delete a [ ] }", 4}, {"delete a [ , b ] }", 4}, {"delete a [ b , ] }", 6}, {"delete a [ b d = 1 ] }", 6}, {"delete a [ b ) }", 5}, {"delete a [ b ] [ d ] }", 6}, {"delete a [ b ] d }", 6},
		{"delete a [ b ] = 1 }", 6}, {"delete a [ NL b ] }", 4}, {"delete a [ b NL ] }", 5}, {"delete a [ b NL , d ] }", 5}, {"delete a NL [ b ] }", 4}, {"delete a [ b", 5}, {"delete a [", 4}, {"delete a [ b ; d ] }", 5}, {"delete a in b }", 3}, {"delete a ++ }", 3},
		{"if }", 2}, {"if a b }", 2}, {"if NL ( a ) b }", 2}, {"if (", 3}, {"if ( ) a }", 3}, {"if ( NL a ) b }", 3}, {"if ( a NL ) b }", 4}, {"if ( a , b ) d }", 4}, {"if ( a ; b ) d }", 4}, {"if ( a b = d ) e }", 5}, {"if ( a", 4}, {"if ( a )", 5}, {"if ( a ) }", 5}, {"if ( a ) NL }", 6}, {"if ( a ) else b }", 5}, {"if ( a ) )", 5}, {"if ( a ) b else d }", 6}, {"if ( a ) b } else d }", 7}, {"if ( print ) b }", 3}, {"if ( a = b ) )", 7},
		{"if ( a ) { b else d }", 7}, {"if ( a ) { } else", 8}, {"if ( a ) { } else }", 8}, {"if ( a ) { } else NL }", 9}, {"if ( a ) { } else b ; else d }", 10}, {"if ( a ) { } else b else d }", 9}, {"if ( a ) { } else else }", 8}, {"if ( a ) ; ; else else }", 8}, {"if ( a ) next else b }", 6}, {"if ( a ) print b else d }", 7}, {"if ( a ) print else d }", 6}, {"if ( a ) exit else d }", 6}, {"if ( a ) return b else d }", 7}, {"if ( a ) delete b else d }", 7}, {"if ( a ) do b ; while ( d ) else e }", 12},
		{"if ( a ) if ( b ) d else e }", 10}, {"if ( a ) b ; d ; else e }", 9}, {"if ( a ) b ; { } else d }", 9}, {"else a }", 1}, {"a ; else b }", 3}, {"{ } else b }", 3}, {"while ( a ) b ; else d }", 7}, {"while ( a ) { } else d }", 7}, {"for ( ; ; ) { } else d }", 8}, {"do { } while ( a ) else d }", 8}, {"do a ; while ( b ) ; else d }", 9}, {"if ( a ) BEGIN { } }", 5}, {"if ( a ) , b }", 5}, {"if ( a ) b )", 6},
		{"while }", 2}, {"while a }", 2}, {"while NL ( a ) b }", 2}, {"while ( ) a }", 3}, {"while ( a }", 4}, {"while ( a NL ) b }", 4}, {"while ( a )", 5}, {"while ( a ) }", 5}, {"while ( a ) NL NL }", 7}, {"while ( a ) b d = 1 }", 7}, {"while ( a ) )", 5}, {"while ( a ; b ) d }", 4},
		{"do }", 2}, {"do", 2}, {"do NL }", 3}, {"do while }", 3}, {"do while ( a ) }", 6}, {"do a while ( b ) }", 3}, {"do a }", 3}, {"do a ; }", 4}, {"do a ; b ; while ( d ) }", 4}, {"do { } a ; while ( b ) }", 4}, {"do a ; while b }", 5}, {"do a ; while NL ( b ) }", 5}, {"do a ; while ( }", 6}, {"do a ; while ( ) }", 6}, {"do a ; while ( NL b ) }", 6}, {"do a ; while ( b NL ) }", 7}, {"do a ; while ( b }", 7}, {"do a ; while ( b ) d }", 8}, {"do { } while ( b ) d }", 8},
		{"do a ; while ( b ) while ( d ) e }", 8}, {"do a ; while ( b ) { } }", 8}, {"do a ; while ( b ) = }", 8}, {"do ; while ( a ) ; while ( b )", 12}, {"do print a while ( b ) }", 4}, {"do next while ( b ) }", 3}, {"do do a ; while ( b ) while ( d ) }", 9}, {"do { } else", 4}, {"do a ; else }", 4}, {"do while ( a ) ; }", 7}, {"do if ( a ) b ; else d while ( e ) }", 10}, {"do", 2}, {"do a", 3}, {"do a ;", 4}, {"do a ; while", 5}, {"do a ; while ( b )", 8},
	} {
		c.checkFault(t, "{ "+x.text, x.at)
	}
	// A token that no rule permits anywhere.
	for _, text := range []string{"{ &f }", "{ a", "{ if ( a ) b ; else {", "{ while ( a ) { } NL"} {
		l := codeOf(text)
		c.check(t, l)
	}
}

// TestP10BehindEachStatement has each token behind each simple statement in the same
// line.
func TestP10BehindEachStatement(t *testing.T) {
	t.Parallel()
	c := newProgramCheck()
	// Behind these, no expression can go on.
	closed := []string{"next", "break", "continue", "delete a [ b ]", "do a ; while ( b )", "do { } while ( b )"}
	for _, text := range append(closed, "print", "print a", "print a , b", "print > a", "print a >> b", "printf a", "printf a | b", "exit", "exit a", "return", "return a", "delete a", "a", "a = b", "a ++", "( a )", "&f ( )", "length", "if ( a ) b", "while ( a ) next", "for ( ; ; ) a", "for ( a in b ) print", "if ( a ) { } else exit", "if ( a ) while ( b ) do d ; while ( e )") {
		before := codeOf("{ " + text)
		for _, x := range followers(append(sampleTokens(), codeOf("NL")...), before[len(before)-1].Kind) {
			l := placed(append(slices.Clone(before), x))
			if x.Kind == impl.TkFunc {
				l = placed(append(l, codeOf("( )")...))
			}
			want := c.check(t, l)
			ends := slices.Contains([]int{impl.TkNewline, impl.TkComment, impl.TkSemi, impl.TkRBrace}, x.Kind)
			if slices.Contains(closed, text) && !ends && want.fault != (impl.Fault{Kind: impl.FtSyntax, At: l[len(before)].At}) {
				t.Errorf("%q behind %q: %v", x.Text, text, want.fault)
			}
			if ends && x.Kind != impl.TkRBrace && want.fault.At != offsetWanted(l, len(l)) {
				t.Errorf("%q behind %q: %v", x.Text, text, want.fault)
			}
			if x.Kind == impl.TkComment {
				l = append(l, codeOf("NL")...)
			}
			c.check(t, placed(append(slices.Clone(l), codeOf("}")...)))
			c.check(t, placed(append(slices.Clone(l), codeOf("a ; }")...)))
			c.check(t, placed(append(slices.Clone(l), codeOf("NL NL else a }")...)))
		}
	}
	for _, text := range []string{"a", "a , b", "a in b", "/r/", "a [ b ]", "length", "a ++"} {
		before := codeOf(text)
		for _, x := range followers(append(sampleTokens(), codeOf("NL")...), before[len(before)-1].Kind) {
			l := append(slices.Clone(before), x)
			if x.Kind == impl.TkComment {
				l = append(l, codeOf("NL")...)
			} else if x.Kind == impl.TkFunc {
				l = append(l, codeOf("( )")...)
			}
			c.check(t, placed(l))
			c.check(t, placed(append(slices.Clone(l), codeOf("b { }")...)))
			c.check(t, placed(append(slices.Clone(l), codeOf("{ }")...)))
		}
	}
}

func TestP10Else(t *testing.T) {
	c := newProgramCheck()
	for _, sep := range []string{"", "NL", "NL NL", ";", "; ;", "NL ; NL", "; NL NL ;"} {
		for _, body := range []string{"{ b }", "NL { b }", "b ;", "b NL", "NL NL b NL"} {
			for _, other := range []string{"d", "{ d }", "NL d", "NL NL { d }", "d ;", "d NL"} {
				c.checkSame(t, "{ if ( a ) "+body+" "+sep+" else "+other+" }", "{ if ( a ) { b } else { d } }")
				c.checkSame(t, "{ x ; if ( a ) "+body+" "+sep+" else "+other+" NL y }", "{ x ; if ( a ) { b } else { d } y }")
			}
			c.checkSame(t, "{ if ( a ) "+body+" "+sep+" NL x }", "{ if ( a ) { b } x }")
			c.checkSame(t, "{ if ( a ) "+body+" "+sep+" }", "{ if ( a ) { b } }")
			c.checkSame(t, "{ if ( a ) "+body+" "+sep+" if ( x ) y NL NL else z }", "{ if ( a ) { b } if ( x ) { y } else { z } }")
			c.checkSame(t, "{ if ( x ) if ( a ) "+body+" "+sep+" else d }", "{ if ( x ) { if ( a ) { b } else { d } } }")
			c.checkSame(t, "{ if ( x ) { if ( a ) "+body+" "+sep+" } NL NL else d }", "{ if ( x ) { if ( a ) { b } } else { d } }")
			c.checkSame(t, "{ if ( x ) if ( a ) "+body+" "+sep+" else d NL NL else e }", "{ if ( x ) { if ( a ) { b } else { d } } else { e } }")
			c.checkSame(t, "{ do if ( a ) "+body+" "+sep+" while ( x ) }", "{ do { if ( a ) { b } } while ( x ) }")
			c.checkSame(t, "{ do if ( a ) "+body+" "+sep+" else d NL NL while ( x ) }", "{ do { if ( a ) { b } else { d } } while ( x ) }")
		}
		c.checkSame(t, "{ if ( a ) ; "+sep+" else ; }", "{ if ( a ) { } else { } }")
	}
	for _, x := range []struct{ text, same string }{
		{"{ if ( a ) while ( b ) if ( x ) d NL NL else e }", "{ if ( a ) { while ( b ) { if ( x ) { d } else { e } } } }"},
		{"{ if ( a ) for ( ; ; ) if ( x ) d ; else e }", "{ if ( a ) { for ( ; ; ) { if ( x ) { d } else { e } } } }"},
		{"{ if ( a ) for ( k in x ) if ( x ) d ; else e ; else g }", "{ if ( a ) { for ( k in x ) { if ( x ) { d } else { e } } } else { g } }"},
		{"{ if ( a ) while ( b ) d ; else e }", "{ if ( a ) { while ( b ) { d } } else { e } }"},
		{"{ if ( a ) do if ( b ) d ; while ( e ) NL NL else g }", "{ if ( a ) { do { if ( b ) { d } } while ( e ) } else { g } }"},
		{"{ if ( a ) do if ( b ) d ; else e ; while ( x ) NL else g }", "{ if ( a ) { do { if ( b ) { d } else { e } } while ( x ) } else { g } }"},
		{"{ if ( a ) b ; else if ( d ) e ; else g }", "{ if ( a ) { b } else { if ( d ) { e } else { g } } }"},
		{"{ if ( a ) if ( b ) if ( d ) e ; else g ; else h }", "{ if ( a ) { if ( b ) { if ( d ) { e } else { g } } else { h } } }"},
		{"{ if ( a ) if ( b ) ; else ; else ; }", "{ if ( a ) { if ( b ) { } else { } } else { } }"},
		{"{ if ( a ) { b } #c NL NL else d }", "{ if ( a ) { b } else { #c NL d } }"},
		{"{ if ( a ) b #c NL ; #d NL else d }", "{ if ( a ) { b } else { #c NL #d NL d } }"},
		{"{ if ( a ) b #c NL ; #d NL d }", "{ if ( a ) { b } #c NL #d NL d }"},
		{"{ if ( a ) { b } ; #c NL NL #d NL }", "{ if ( a ) { b } #c NL #d NL }"},
		{"{ if ( a ) if ( b ) d #c NL else e #d NL else g }", "{ if ( a ) { if ( b ) { d } else { #c NL e } } else { #d NL g } }"},
		{"{ if ( a ) if ( b ) d #c NL #d NL }", "{ if ( a ) { if ( b ) { d } } #c NL #d NL }"},
		{"{ while ( a ) if ( b ) d NL #c NL e }", "{ while ( a ) { if ( b ) { d } } #c NL e }"},
		{"{ do if ( a ) b NL #c NL while ( d ) NL e }", "{ do { if ( a ) { b } } while ( d ) NL #c NL e }"},
		{"{ if ( a ) b NL } x", "{ if ( a ) { b } } x"},
	} {
		c.checkSame(t, x.text, x.same)
	}
}

func TestP10Comments(t *testing.T) {
	c := newProgramCheck()
	for _, x := range []struct{ text, same string }{
		{"a && #c NL b", "a && b NL #c"}, {"a && #c NL b { x }", "a && b { #c NL x }"}, {"a && #c NL b { }", "a && b { #c NL }"}, {"a && #c NL b NL x", "a && b NL #c NL x"}, {"a , #c NL b", "a , b NL #c"}, {"a , #c NL b { x }", "a , b { #c NL x }"},
		{"a || #c NL b , #d NL &f ( x , #e NL y ) { #g NL x }", "a || b , &f ( x , y ) { #c NL #d NL #e NL #g NL x }"}, {"a #c NL { x }", "a NL #c NL { x }"}, {"a #c NL NL #d NL { #e NL x }", "a NL #c NL #d NL { #e NL x }"},
		{"function f ( a , #c NL b ) { x }", "function f ( a , b ) { #c NL x }"}, {"function f ( ) #c NL { x }", "function f ( ) { #c NL x }"}, {"function f ( a , #c NL b , #d NL e ) #g NL { } #h NL", "function f ( a , b , e ) { #c NL #d NL #g NL } #h NL"},
		{"{ print a , #c NL b ; x }", "{ print a , b ; #c NL x }"}, {"{ print a , #c NL b }", "{ print a , b NL #c NL }"}, {"{ printf a , #c NL b > d #e NL }", "{ printf a , b > d NL #c NL #e NL }"}, {"{ x = &f ( a , #c NL b ) ; y }", "{ x = &f ( a , b ) ; #c NL y }"}, {"{ return a || #c NL b }", "{ return a || b ; #c NL }"},
		{"{ delete a [ b , #c NL d ] ; x }", "{ delete a [ b , d ] ; #c NL x }"}, {"{ ( a , #c NL b ) in d NL } #d", "{ ( a , b ) in d NL #c NL } #d"}, {"{ a && #c NL b && #d NL d ; #e NL x }", "{ a && b && d ; #c NL #d NL #e NL x }"},
		{"{ if ( a ) #c NL b }", "{ if ( a ) { #c NL b } }"}, {"{ if ( a ) #c NL ; }", "{ if ( a ) { #c NL } }"}, {"{ if ( a ) NL #c NL NL #d NL ; x }", "{ if ( a ) { #c NL #d NL } x }"}, {"{ if ( a ) ; #c NL }", "{ if ( a ) { } #c NL }"}, {"{ if ( a ) b #c NL }", "{ if ( a ) { b } #c NL }"}, {"{ if ( a ) b ; #c NL x }", "{ if ( a ) { b } #c NL x }"},
		{"{ if ( a ) #c NL { b } }", "{ if ( a ) { #c NL b } }"}, {"{ if ( a ) #c NL { #d NL } }", "{ if ( a ) { #c NL #d NL } }"}, {"{ if ( a ) #c NL { { b } } }", "{ if ( a ) { #c NL { b } } }"}, {"{ if ( a ) print b , #c NL d }", "{ if ( a ) { print b , d } #c NL }"}, {"{ if ( a ) print b , #c NL d ; x }", "{ if ( a ) { print b , d } #c NL x }"},
		{"{ if ( a ) print b , #c NL d NL else e }", "{ if ( a ) { print b , d } else { #c NL e } }"}, {"{ if ( a && #c NL b ) d }", "{ if ( a && b ) { #c NL d } }"}, {"{ if ( a && #c NL b ) ; d }", "{ if ( a && b ) { #c NL } d }"}, {"{ if ( a && #c NL b ) #d NL { } }", "{ if ( a && b ) { #c NL #d NL } }"},
		{"{ if ( a ) { } #c NL else #d NL b }", "{ if ( a ) { } else { #c NL #d NL b } }"}, {"{ if ( a ) { } else #d NL { } }", "{ if ( a ) { } else { #d NL } }"}, {"{ if ( a ) #c NL b #d NL else #e NL ; #g NL }", "{ if ( a ) { #c NL b } else { #d NL #e NL } #g NL }"},
		{"{ while ( a ) #c NL while ( b ) #d NL x #e NL }", "{ while ( a ) { #c NL while ( b ) { #d NL x } } #e NL }"}, {"{ while ( a || #c NL b ) while ( d || #d NL e ) ; #e NL }", "{ while ( a || b ) { #c NL while ( d || e ) { #d NL } } #e NL }"},
		{"{ do #c NL x #d NL while ( a && #e NL b ) #g NL }", "{ do { #c NL x } while ( a && b ) ; #d NL #e NL #g NL }"}, {"{ do ; #c NL while ( a ) }", "{ do { } while ( a ) ; #c NL }"}, {"{ do #c NL ; while ( a ) }", "{ do { #c NL } while ( a ) }"}, {"{ do { #c NL } #d NL while ( a ) ; x }", "{ do { #c NL } while ( a ) ; #d NL x }"}, {"{ do #c NL { x } while ( a ) }", "{ do { #c NL x } while ( a ) }"},
		{"{ for ( a ; #c NL b ; #d NL d ) #e NL x }", "{ for ( a ; b ; d ) { #c NL #d NL #e NL x } }"}, {"{ for ( ; #c NL ; #d NL ) ; #e NL }", "{ for ( ; ; ) { #c NL #d NL } #e NL }"}, {"{ for ( a || #c NL b ; ; ) { } }", "{ for ( a || b ; ; ) { #c NL } }"}, {"{ for ( a in b ) #c NL x #d NL }", "{ for ( a in b ) { #c NL x } #d NL }"}, {"{ for ( a in b ) #c NL ; }", "{ for ( a in b ) { #c NL } }"},
		{"{ #c NL { #d NL } #e NL }", "{ NL #c NL ; { ; #d NL ; } ; #e NL ; }"}, {"{ #c NL } #d", "{ NL NL #c NL } NL NL #d NL"}, {"#c NL BEGIN { } #d NL END { } #e", "; #c NL ; BEGIN { } ; #d NL NL END { } NL #e"}, {"#c NL #c NL a #c NL #c", "NL #c NL NL #c NL a ; #c NL ; #c NL"},
		{"a , #c NL b NL { }", "a , b NL #c NL { }"}, {"#c", "#c NL"}, {"#c NL #d", "; #c NL ; #d NL ;"}, {"{ } #c NL { }", "{ } NL #c NL { }"}, {"{ a #c NL b #d NL }", "{ a NL #c NL b ; #d NL }"},
	} {
		c.checkSame(t, x.text, x.same)
	}
	// The trees of some of these.
	note := func(text string) []impl.Node { return single(impl.SComment, text) }
	x := stmt(impl.SExpr, nameTree("x"))
	c.checkItems(t, "#c NL a #d NL", note("#c"), rule(1, nameTree("a")), note("#d"))
	c.checkStmts(t, "#c NL x #d NL #e NL x ; #g NL", note("#c"), x, note("#d"), note("#e"), x, note("#g"))
	c.checkStmts(t, "if ( a ) #c NL x ; #d NL", stmt(impl.SIf, nameTree("a"), block(note("#c"), x)), note("#d"))
	c.checkStmts(t, "if ( a ) NL #c NL ; #d NL x", stmt(impl.SIf, nameTree("a"), block(note("#c"))), note("#d"), x)
	c.checkStmts(t, "if ( a ) { x } #c NL else #d NL x", stmt(impl.SIf, nameTree("a"), block(x), block(note("#c"), note("#d"), x)))
	c.checkStmts(t, "print a , #c NL b NL x", joined(impl.Node{Kind: impl.SPrint}, names("a b")...), note("#c"), x)
	c.checkItems(t, "a #c NL { x #d NL }", rule(1, nameTree("a")), note("#c"), rule(2, block(x, note("#d"))))
	c.checkItems(t, "a && #c NL b { x } #d NL", rule(3, binTree(impl.TkAnd, nameTree("a"), nameTree("b")), block(note("#c"), x)), note("#d"))
}

// TestP10LinesAndMarks has newlines, comments and semicolons at each place, which @
// stands for.
func TestP10LinesAndMarks(t *testing.T) {
	c := newProgramCheck()
	lines := []string{"NL", "NL NL", "#c NL", "NL #c NL NL #d NL NL"}
	marks := append([]string{";", "; ;", "; NL", "NL ;", "; #c NL ;"}, lines...)
	// nl: the tree is the same but for the comments.
	check := func(text, mark string) {
		t.Helper()
		want := c.check(t, codeOf(strings.ReplaceAll(text, "@", "")))
		got := c.check(t, codeOf(strings.ReplaceAll(text, "@", mark)))
		if want.fault != (impl.Fault{}) || got.fault != (impl.Fault{}) || !sameNodes(withoutComments(got.tree), want.tree) {
			t.Errorf("%q with %q: %s, want %s", text, mark, got.shownResult(), want.shownResult())
		}
	}
	for _, text := range []string{
		"{ if ( a ) @ b }", "{ if ( a ) @ { b } }", "{ if ( a ) @ ; }", "{ if ( a ) { } else @ b }", "{ if ( a ) { } else @ { } }", "{ if ( a ) { } else @ ; }", "{ while ( a ) @ b }", "{ while ( a ) @ ; }", "{ while ( a ) @ { } }", "{ do @ b ; while ( a ) }", "{ do @ { } while ( a ) }", "{ do @ ; while ( a ) }",
		"{ for ( a ; @ b ; @ d ) @ e }", "{ for ( ; @ ; @ ) @ ; }", "{ for ( ; ; ) @ { } }", "{ for ( a in b ) @ d }", "{ for ( a in b ) @ { } }", "{ for ( a in b ) @ ; }", "{ print a , @ b , @ d }", "{ printf a , @ b > d }", "function f ( a , @ b , @ d ) @ { }", "function f ( ) @ { }", "function &f ( a ) @ { x }",
		"a , @ b", "a , @ b { }", "{ delete a [ b , @ d ] }", "{ if ( a && @ b ) d }", "{ x = &f ( a , @ b ) }", "a || @ b", "a && @ b { }", "{ return ( a , @ b ) in d }", "{ do { } while ( a || @ b ) }", "{ for ( a && @ b ; a && @ b ; a && @ b ) d }", "{ print > &f ( a , @ b ) }",
	} {
		for _, mark := range lines {
			check(text, mark)
		}
	}
	for _, text := range []string{
		"@", "@ a", "a NL @", "a NL @ b", "{ } @ { }", "a { } @ b { }", "BEGIN { } @ END { }", "@ { } @", "a , b NL @ d", "function f ( ) { } @ function g ( ) { }", "{ @ }", "{ @ a }", "{ a @ }", "{ a NL @ b }", "{ { } @ { } }", "{ { @ } @ }", "{ if ( a ) { } @ else b }", "{ if ( a ) b NL @ else d }", "{ if ( a ) ; @ else ; @ }",
		"{ if ( a ) { } else { } @ b }", "{ do { } @ while ( a ) }", "{ do a NL @ while ( b ) }", "{ do ; @ while ( b ) @ }", "{ do { } while ( a ) NL @ b }", "{ while ( a ) { } @ b }", "{ while ( a ) ; @ b }", "{ for ( ; ; ) b NL @ d }", "{ print @ }", "{ print a > b @ }", "{ next @ }", "{ exit a @ }", "{ if ( a ) if ( b ) ; @ else ; @ else ; @ d }",
	} {
		for _, mark := range marks {
			check(text, mark)
		}
	}
	// Neither: the mark is not permitted.
	for _, text := range []string{
		"BEGIN @ { }", "END @ { }", "function @ f ( ) { }", "function f @ ( ) { }", "function f ( @ ) { }", "function f ( @ a ) { }", "function f ( a @ ) { }", "function f ( a @ , b ) { }", "a [ @ b ]", "( a @ )", "a + @ b", "a , b + @ d", "! @ a { }", "( a , b ) @ in d",
		"{ if @ ( a ) b }", "{ if ( @ a ) b }", "{ if ( a @ ) b }", "{ while @ ( a ) b }", "{ while ( @ a ) b }", "{ while ( a @ ) b }", "{ do a ; while @ ( b ) }", "{ do a ; while ( @ b ) }", "{ do a ; while ( b @ ) }", "{ for @ ( ; ; ) a }", "{ for ( a @ ; b ; d ) e }", "{ for ( a ; b @ ; d ) e }", "{ for ( a ; b ; d @ ) e }",
		"{ for ( @ a in b ) d }", "{ for ( a @ in b ) d }", "{ for ( a in @ b ) d }", "{ for ( a in b @ ) d }", "{ print a > @ b }", "{ print >> @ b }", "{ print ( a @ ) }", "{ delete @ a }", "{ delete a [ @ b ] }", "{ delete a [ b @ ] }", "{ delete a [ b @ , d ] }", "{ printf @ a }", "{ a = @ b }", "{ return - @ a }", "{ a [ b @ ] = d }",
	} {
		at := len(codeOf(text[:strings.Index(text, "@")]))
		for _, mark := range marks {
			if mark[0] == ';' && (strings.Contains(text, "for ( a @ ;") || strings.Contains(text, "for ( a ; b @ ;") || strings.Contains(text, "for ( @ a in") || strings.Contains(text, "for ( a @ in")) {
				continue
			}
			c.checkFault(t, strings.ReplaceAll(text, "@", mark), at)
		}
	}
	for _, mark := range lines {
		n := len(codeOf(mark))
		for _, x := range []struct {
			text string
			at   int // without the mark
		}{
			{"a @ , b", 1}, {"a , b @ , d", 3}, {"{ print a @ , b }", 3}, {"{ print @ > b }", 2}, {"{ print a @ > b }", 3}, {"{ delete a @ [ b ] }", 3}, {"{ a @ = b }", 2}, {"{ a @ ? b : d }", 2}, {"{ a @ && b }", 2}, {"{ a @ ) }", 2}, {"a @ in b", 1}, {"{ exit @ , a }", 2}, {"{ if ( a ) b NL @ , }", 7}, {"{ print a , @ , b }", 4}, {"a , @ , b", 2}, {"{ if ( a ) @ else b }", 5}, {"{ if ( a ) @ }", 5}, {"{ for ( ; @ , ; ) a }", 4}, {"function f ( a , @ ) { }", 5}, {"function f ( ) @ a", 4},
		} {
			c.checkFault(t, strings.ReplaceAll(x.text, "@", mark), x.at+n)
		}
	}
	for _, x := range []struct{ text, same string }{
		{"a NL { b }", "a ; { b }"}, {"{ print NL a }", "{ print ; a }"}, {"{ return NL a }", "{ return ; a }"}, {"{ exit NL a }", "{ exit ; a }"}, {"{ delete a NL b }", "{ delete a ; b }"}, {"{ a NL - b }", "{ a ; - b }"}, {"a NL ( b )", "a ; ( b )"}, {"{ length NL ( a ) }", "{ length ( ) ; a }"}, {"{ a NL b }", "{ a ; b }"},
		{"{ if ( a ) ; b }", "{ if ( a ) { } b }"}, {"{ while ( a ) NL ; b }", "{ while ( a ) { } b }"}, {"{ for ( ; ; ) ; ; b }", "{ for ( ; ; ) { } b }"}, {"{ if ( a ) b ; else ; d }", "{ if ( a ) { b } else { } d }"}, {"{ do ; ; while ( a ) }", "{ do { } while ( a ) }"},
	} {
		c.checkSame(t, x.text, x.same)
	}
}

func TestP10NoItems(t *testing.T) {
	c := newProgramCheck()
	for _, x := range []struct{ text, comments string }{
		{"", ""}, {"NL", ""}, {";", ""}, {"NL NL NL", ""}, {"; ; ;", ""}, {"; NL ; NL", ""}, {"#c", "#c"}, {"#c NL", "#c"}, {"#c NL #d", "#c #d"}, {"NL #c NL ; #c NL NL #d NL ;", "#c #c #d"},
	} {
		var kids [][]impl.Node
		for _, text := range strings.Fields(x.comments) {
			kids = append(kids, single(impl.SComment, text))
		}
		checkProgram(t, codeOf(x.text), parseWanted{tree: program(kids...)})
		c.check(t, codeOf(x.text))
	}
	tree, fault := impl.ParseTokens(nil)
	if fault != (impl.Fault{}) || !sameNodes(tree, single(impl.PProgram, "")) {
		t.Error("no tokens:", nodesShown(tree), fault)
	}
	checkProgram(t, []impl.Token{}, parseWanted{tree: program()})
}

// TestP10FaultsInOrder has each fault alone and with those that come behind it in the
// document's order.
func TestP10FaultsInOrder(t *testing.T) {
	words := func(parts ...string) []impl.Token { return codeOf(strings.Join(parts, " ")) }
	strange := []impl.Token{{Kind: 99, Text: "a"}}
	many := strings.Repeat("a ; ", 200)
	loops := "{ " + strings.Repeat("while ( a ) ", 18) + "b }"
	open := strings.Repeat("( ", 41)
	syntax := func(l []impl.Token, i int) parseWanted { return faultOf(impl.FtSyntax, offsetWanted(l, i)) }
	for _, x := range []struct {
		name string
		l    []impl.Token
		kind int
		at   int // a token, if the fault is at one
	}{
		{"strange tokens", strange, impl.FtLex, -1},
		{"and open brackets", append(words(open), strange...), impl.FtLex, -1},
		{"and a syntax fault", append(words("}"), strange...), impl.FtLex, -1},
		{"and many nodes", append(words(many), strange...), impl.FtLex, -1},
		{"and a deep tree", append(words(loops), strange...), impl.FtLex, -1},
		{"open brackets", words(open), impl.FtDeep, 40},
		{"and a syntax fault before them", words("} = ", open), impl.FtDeep, 42},
		{"and a syntax fault behind them", words("{ a = ", strings.Repeat("( ", 40), ")", ", }"), impl.FtDeep, 42},
		{"and an end that comes too early", words("{ a ;", open), impl.FtDeep, 42},
		{"and many nodes", words(many, open), impl.FtDeep, 440},
		{"and a deep tree", words(loops, strings.Repeat("[ ", 41)), impl.FtDeep, len(codeOf(loops)) + 40},
		{"braces", words(strings.Repeat("{ ", 41), strings.Repeat("} ", 41)), impl.FtDeep, 40},
		{"a syntax fault and many nodes", words(many, "}"), impl.FtSyntax, 400},
		{"a syntax fault at the end and many nodes", words(many, "BEGIN"), impl.FtSyntax, 401},
		{"a syntax fault and a deep tree", words(loops, "}"), impl.FtSyntax, len(codeOf(loops))},
		{"a syntax fault ahead of a deep tree", words("a b = c ;", loops), impl.FtSyntax, 2},
		{"two syntax faults", words("{ a ) ; b ] }"), impl.FtSyntax, 2},
		{"many nodes", words(many), impl.FtLarge, -1},
		{"many nodes and a deep tree", words(many, loops), impl.FtLarge, -1},
		{"many nodes of a deep tree", words("{ a", strings.Repeat(" a", 300), "}"), impl.FtLarge, -1},
		{"a deep tree", words(loops), impl.FtDeep, -1},
		{"a deep expression", words("{ ", strings.Repeat("! ", 40), "a }"), impl.FtDeep, -1},
		{"a deep pattern", words(strings.Repeat("! ", 40), "a"), impl.FtDeep, -1},
		{"as many tokens as there may be", words("a", strings.Repeat("; ", 2999)), impl.FtNone, -1},
		{"one token more", words("a", strings.Repeat("; ", 3000)), impl.FtLex, -1},
		{"one token more, all wrong", words(strings.Repeat("} ", 3001)), impl.FtLex, -1},
	} {
		l := placed(x.l)
		want := faultOf(x.kind, 0)
		if x.at >= 0 && x.kind == impl.FtSyntax {
			want = syntax(l, x.at)
		} else if x.at >= 0 {
			want = faultOf(x.kind, l[x.at].At)
		}
		if x.kind == impl.FtNone {
			want = parseWanted{tree: program(rule(1, nameTree("a")))}
		}
		if !t.Run(x.name, func(t *testing.T) { checkProgram(t, l, want) }) {
			t.Logf("of %.100q", textOf(l))
		}
	}
}

func TestP10OffsetsOfFaults(t *testing.T) {
	for _, at := range []int{math.MinInt, -7, 0, 5, math.MaxInt - 8, math.MaxInt} {
		token := impl.Token{Kind: impl.TkBuiltin, Text: "substr", At: at}
		last := append(wordsOf("{ print"), token)
		checkProgram(t, last, faultOf(impl.FtSyntax, at+6))
		checkProgram(t, append(slices.Clone(last), wordsOf("= }")...), faultOf(impl.FtSyntax, 0))
		checkProgram(t, append(wordsOf("{ next"), token), faultOf(impl.FtSyntax, at))
		checkProgram(t, append(wordsOf("BEGIN"), token), faultOf(impl.FtSyntax, at))
		checkProgram(t, append(wordsOf("{ a"), impl.Token{Kind: impl.TkNewline, Text: "\n", At: at}), faultOf(impl.FtSyntax, at+1))
		checkProgram(t, append(wordsOf("{ a"), impl.Token{Kind: impl.TkComment, Text: "# end", At: at}), faultOf(impl.FtSyntax, at+5))
		checkProgram(t, append(slices.Repeat(wordsOf("["), 40), impl.Token{Kind: impl.TkLBrace, Text: "{", At: at}), faultOf(impl.FtDeep, at))
		checkProgram(t, []impl.Token{{Kind: impl.TkName, Text: "1", At: at}}, faultOf(impl.FtLex, 0))
		checkProgram(t, []impl.Token{{Kind: impl.TkName, Text: "a", At: at}}, parseWanted{tree: program(rule(1, nameTree("a")))})
		checkProgram(t, []impl.Token{{Kind: impl.TkRBrace, Text: "}", At: at}}, faultOf(impl.FtSyntax, at))
	}
}

// TestP10NumbersOfNodes has programs of up to MaxNodes nodes and more, the comments
// among them.
func TestP10NumbersOfNodes(t *testing.T) {
	for _, x := range []struct {
		text  string // many times
		nodes int
		end   string
		rest  int
	}{
		{"a ; ", 2, "", 1}, {"a ; ", 2, "! a", 4}, {"#c NL ", 1, "", 1}, {"{ } ", 2, "", 1}, {"{ } ", 2, "#c", 2}, {"BEGIN { } ", 2, "a , b", 4}, {"{ if ( a ) ; } ", 5, "", 1}, {"{ for ( ; ; ) ; } ", 7, "#c NL ", 2}, {"function f ( a ) { #c NL } ", 4, "a", 3}, {"{ next } ", 3, "", 1}, {"a , b { } ", 4, "", 1},
		{"{ print } ", 3, "{ delete a }", 4}, {"{ do ; while ( a ) } ", 5, "{ exit }", 4}, {"{ if ( a ) ; else ; } ", 6, "", 1}, {"{ for ( a in b ) c } ", 6, "", 1}, {"{ { } { } { ; } } ", 5, "", 1}, {"{ a = ( ( 1 ) ) } ", 6, "", 1},
	} {
		for n := 390 / x.nodes; n <= 410/x.nodes; n++ {
			l := codeOf(strings.Repeat(x.text, n) + x.end)
			count := n*x.nodes + x.rest
			tree, fault := impl.ParseTokens(l)
			want := impl.Fault{}
			if count > maxNodesWanted {
				count, want.Kind = 0, impl.FtLarge
			}
			if len(tree) != count || fault != want {
				t.Errorf("%d times %q and %q: %d nodes, %v, want %d, %v", n, x.text, x.end, len(tree), fault, count, want)
			}
		}
	}
	// In a block too.
	for n := 390; n <= 400; n++ {
		l := codeOf("{ " + strings.Repeat("next ; ", n) + "}")
		tree, fault := impl.ParseTokens(l)
		if count := n + 3; count > maxNodesWanted && (len(tree) > 0 || fault != impl.Fault{Kind: impl.FtLarge}) || count <= maxNodesWanted && (len(tree) != count || fault != impl.Fault{}) {
			t.Errorf("%d statements: %d nodes, %v", n, len(tree), fault)
		}
	}
}

// TestP10Depths has programs of up to MaxDepth levels and more, which need few
// brackets.
func TestP10Depths(t *testing.T) {
	for _, x := range []struct {
		before, after string
		levels        int
	}{
		{"while ( a )", "", 2}, {"if ( a )", "", 2}, {"if ( a ) ; else", "", 2}, {"for ( ; ; )", "", 2}, {"for ( a in b )", "", 2}, {"do", "; while ( a )", 2}, {"{", "}", 1}, {"{ a ;", "NL ; }", 1}, {"{ } {", "} { }", 1}, {"if ( a ) {", "} else ;", 2}, {"while ( a ) { b ;", "}", 2}, {"do {", "} while ( a )", 2},
	} {
		for n := 30 / x.levels; n <= 39/x.levels; n++ {
			for signs := range 4 {
				text := "{ " + strings.Repeat(x.before+" ", n) + strings.Repeat("! ", signs) + "x " + strings.Repeat(x.after+" ", n) + "}"
				l := codeOf(text)
				if nestWanted(l) >= 0 {
					continue
				}
				depth := 3 + n*x.levels + 2 + signs
				tree, fault := impl.ParseTokens(l)
				switch {
				case depth > maxDepthWanted && (len(tree) > 0 || fault != impl.Fault{Kind: impl.FtDeep}):
					t.Errorf("depth %d: %q: %d nodes, %v", depth, text, len(tree), fault)
				case depth <= maxDepthWanted && (fault != impl.Fault{} || len(tree) == 0 || depthWanted(tree, len(tree)-1) != depth):
					t.Errorf("depth %d: %q: %s, %v", depth, text, nodesShown(tree), fault)
				}
			}
		}
	}
	for n := 30; n <= 42; n++ {
		l := codeOf(strings.Repeat("! ", n) + "a")
		want := parseWanted{tree: program(rule(1, nested(nameTree("a"), impl.Node{Kind: impl.EUnary, Op: impl.TkNot}, n)))}
		if n+3 > maxDepthWanted {
			want = faultOf(impl.FtDeep, 0)
		}
		checkProgram(t, l, want)
	}
}

func TestP10OpenBrackets(t *testing.T) {
	for n := 36; n <= 44; n++ {
		for _, x := range []struct{ before, open, shut, after string }{
			{"{ a =", "(", ")", "}"}, {"", "(", ")", ""}, {"{ if ( a ) ; b [ 1 ] = &f (", "(", ")", ") }"}, {"BEGIN { print", "(", ")", "> b }"}, {"{ x [", "(", ")", "] }"}, {"function f ( a ) { return", "(", ")", "}"}, {"{ { { { delete x [ &f (", "(", ")", ") ] } } } }"}, {"{ while (", "(", ")", ") ; }"},
			{"{ for ( ; ;", "(", ")", ") next }"}, {"a , b [", "(", ")", "] { }"}, {"{ do { a } while (", "(", ")", ") }"},
		} {
			around := len(codeOf(strings.Join(strings.Fields(x.before), " ")))
			open := 0
			for _, token := range codeOf(x.before) {
				switch token.Text {
				case "(", "[", "{":
					open++
				case ")", "]", "}":
					open--
				}
			}
			l := codeOf(x.before + " " + strings.Repeat(x.open+" ", n-open) + "y " + strings.Repeat(x.shut+" ", n-open) + x.after)
			tree, fault := impl.ParseTokens(l)
			if n <= maxOpenWanted {
				same, none := impl.ParseTokens(codeOf(x.before + " y " + x.after))
				if fault != (impl.Fault{}) || none != fault || len(tree) == 0 || !sameNodes(tree, same) {
					t.Errorf("%d open brackets of %q: %s, %v", n, x.before, nodesShown(tree), fault)
				}
				continue
			}
			checkProgram(t, l, faultOf(impl.FtDeep, l[around+maxOpenWanted-open].At))
		}
	}
	// Braces leave nodes, and brackets that were closed do not count.
	for n := 1; n <= 45; n++ {
		l := codeOf(strings.Repeat("{ ", n) + strings.Repeat("} ", n))
		tree := block()
		for range n - 1 {
			tree = block(tree)
		}
		want := parseWanted{tree: program(rule(2, tree))}
		if n > maxOpenWanted {
			want = faultOf(impl.FtDeep, l[maxOpenWanted].At)
		} else if n+2 > maxDepthWanted {
			want = faultOf(impl.FtDeep, 0)
		}
		checkProgram(t, l, want)
		l = codeOf(strings.Repeat("{ ( a ) } ", n))
		want = parseWanted{tree: program(slices.Repeat([][]impl.Node{rule(2, block(stmt(impl.SExpr, nameTree("a"))))}, n)...)}
		checkProgram(t, l, want)
	}
}

// TestP10ManyTokens has the longest programs of each sort; ParseTokens must return for
// all of them.
func TestP10ManyTokens(t *testing.T) {
	right := newRightCheck()
	for _, text := range []string{
		"if ( a )", "while ( a )", "do", "for ( ; ; )", "for ( a in b )", "if ( a ) ; else", "{", "{ }", "!", "$", "- -", "a", "a ;", "a ,", "print", "print a ,", "do ; while ( a ) ;", "function f ( a ,", "(", "( a", "a [", "( )", "a ?", "a ? b :", "a =", "a ||", "a || NL", "NL", "#c NL", ";", "BEGIN", "BEGIN {", "BEGIN { }", "else", "in", "if ( a ) b ; else", "delete a [ b ,", "return", "if ( a ) #c NL", "do if ( a ) #c NL NL",
	} {
		words := wordsOf("x")
		for _, around := range []string{"", "{", "{ a ; {", "{ if ( x ) ; "} {
			words = codeOf(around)
			piece := codeOf(text)
			for len(words)+len(piece) <= 2990 {
				words = append(words, piece...)
			}
			for _, end := range []string{"", "}", "x }", "x ; while ( y )", ") }"} {
				l := append(slices.Clone(words), codeOf(end)...)
				if text == "#c NL" || end == "" || words[len(words)-1].Kind != impl.TkComment {
					checkAnyProgram(t, right, placed(l))
				}
			}
		}
	}
}

func TestP10ArgumentsStayAndResultsAreNew(t *testing.T) {
	random := rand.New(rand.NewPCG(13, 9))
	m, w := newNodeMaker(random), newProgramWriter(random)
	lists := [][]impl.Token{nil, codeOf("}"), codeOf("{ a"), codeOf("{ print a , b > d ; }"), codeOf("a"), codeOf("function f ( a , b ) { }"), slices.Repeat(wordsOf("("), 41), slices.Repeat(wordsOf("a"), 3001), codeOf("#c NL")}
	for round := range 200 {
		l, _ := w.written(randomProgram(m, round%60, 4+round%12), round%3, 2)
		lists = append(lists, l)
	}
	for _, tokens := range lists {
		mark := impl.Token{Kind: 77, Text: "unused", At: 77}
		long := append(slices.Clone(tokens), mark, mark)
		before := slices.Clone(long)
		short := long[:len(long)-2]
		first, fault := impl.ParseTokens(short)
		want := cloned(first)
		second, _ := impl.ParseTokens(short)
		for i, n := range second {
			for k := range n.Kids[:cap(n.Kids)] {
				n.Kids[:cap(n.Kids)][k] = -i - 1
			}
		}
		for i, n := range second {
			for _, kid := range n.Kids[:cap(n.Kids)] {
				if kid != -i-1 {
					t.Errorf("two lists of kids of %.300q share memory", textOf(tokens))
				}
			}
		}
		third, again := impl.ParseTokens(short)
		if !sameNodes(first, want) || !sameNodes(third, want) || again != fault {
			t.Errorf("results of %.300q differ", textOf(tokens))
		}
		if !slices.Equal(long, before) {
			t.Errorf("the tokens of %.300q were changed", textOf(tokens))
		}
	}
}
