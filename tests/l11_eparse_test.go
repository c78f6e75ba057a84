package tests

import (
	"fmt"
	"math"
	"math/rand/v2"
	"slices"
	"strings"
	"testing"

	"loop.example/g01543/impl"
)

// The tests of this file check P7, and the second half of P8: ParseExpr finds
// exactly the derivations of the grammar, and reads ExprTokens and FullTokens back.
// The grammar is written once more below, in the words of the document, and read by
// a parser for any grammar, which knows nothing of levels: it keeps all rules that
// the tokens so far may be a part of (Earley's method). So it tells which tokens
// can continue an expression that was begun, and it finds all derivations.

// maxOpenWanted is the document's MaxOpen, written once more.
const maxOpenWanted = 40

// ruleWanted is a line of the grammar: its name, the kind of its node (0 for none),
// and its parts: names of lines, tokens, and names of groups of tokens. A line with
// a ' starts with a token of BeginsOperand, one with !in has no in and one with !> no >.
type ruleWanted struct {
	name  string
	kind  int
	parts string
}

func rulesWanted() []ruleWanted {
	l := []ruleWanted{
		{"1", impl.EAssign, "lvalue assigns 1"}, {"1", 0, "2"},
		{"2", impl.ECond, "3 ? 2 : 2"}, {"2", 0, "3"},
		{"3", impl.EBin, "3 || nl 4"}, {"3", 0, "4"},
		{"4", impl.EBin, "4 && nl 5"}, {"4", 0, "5"},
		{"5", impl.EIn, "5 in name"}, {"5", impl.EIn, "( several ) in name"}, {"5", 0, "6"},
		{"6", impl.EBin, "7 matches 7"}, {"6", 0, "7"},
		{"7", impl.EBin, "8 compares 8"}, {"7", impl.EBin, "8 > 8"}, {"7", 0, "8"},
		{"8", impl.EBin, "8 9'"}, {"8", 0, "9"},
		{"9", impl.EBin, "9 adds 10"}, {"9", 0, "10"},
		{"10", impl.EBin, "10 muls 11"}, {"10", 0, "11"},
		{"11", impl.EUnary, "signs 11"}, {"11", 0, "12"},
		{"12", impl.EBin, "13 ^ 11"}, {"12", 0, "13"},
		{"13", 0, "stepped"}, {"13", impl.EPost, "lvalue steps"}, {"13", 0, "14"},
		{"14", impl.EField, "$ stepped"}, {"14", impl.EField, "$ 14"}, {"14", 0, "15"},
		{"15", impl.ENum, "num"}, {"15", impl.EStr, "str"}, {"15", impl.EEre, "ere"},
		{"15", impl.EName, "name"}, {"15", impl.EIndex, "name [ list ]"},
		{"15", impl.ECall, "func ( )"}, {"15", impl.ECall, "func ( list )"},
		{"15", impl.EBuiltin, "builtin ( )"}, {"15", impl.EBuiltin, "builtin ( list )"},
		{"15", impl.EBuiltin, "length"}, {"15", 0, "( 1 )"},
		{"lvalue", impl.EName, "name"}, {"lvalue", impl.EIndex, "name [ list ]"},
		{"lvalue", impl.EField, "$ stepped"}, {"lvalue", impl.EField, "$ 14"},
		{"stepped", impl.EPre, "steps lvalue"},
		{"nl", 0, ""}, {"nl", 0, "newline nl"}, {"nl", 0, "comment nl"},
		{"dollar", 0, "14"}, {"dollar", 0, "stepped"},
	}
	for n := range maxArgsWanted {
		elements := "1" + strings.Repeat(" , nl 1", n)
		l = append(l, ruleWanted{"list", 0, elements})
		if n > 0 {
			l = append(l, ruleWanted{"several", 0, elements})
		}
	}
	return l
}

// lengthAlone stands for length without a parenthesis, beside the kinds of tokens.
const lengthAlone = 9

// tokenGroups has the tokens behind each name in the grammar that is not a line.
func tokenGroups() map[string][]int {
	groups := map[string][]int{
		"num": {impl.TkNum}, "str": {impl.TkStr}, "ere": {impl.TkEre}, "name": {impl.TkName}, "func": {impl.TkFunc}, "builtin": {impl.TkBuiltin},
		"length": {lengthAlone}, "newline": {impl.TkNewline}, "comment": {impl.TkComment},
	}
	kinds := wordKinds()
	for name, words := range map[string]string{
		"assigns": "= += -= *= /= %= ^=", "matches": "~ !~", "compares": "< <= == != >=", "adds": "+ -", "muls": "* / %", "signs": "- + !", "steps": "++ --",
		"?": "?", ":": ":", "||": "||", "&&": "&&", "in": "in", ">": ">", "^": "^", "$": "$", "(": "(", ")": ")", "[": "[", "]": "]", ",": ",",
	} {
		for _, word := range strings.Fields(words) {
			groups[name] = append(groups[name], kinds[word])
		}
	}
	// The other words stand for themselves.
	for word, kind := range kinds {
		if len(groups[word]) == 0 && kind != impl.TkBuiltin {
			groups[word] = []int{kind}
		}
	}
	return groups
}

// beginners are the tokens of BeginsOperand, written once more.
func beginners() []int {
	return []int{impl.TkNum, impl.TkStr, impl.TkName, impl.TkFunc, impl.TkBuiltin, impl.TkLParen, impl.TkDollar, lengthAlone}
}

// symbol is a line of the grammar with the restrictions that apply to it.
type symbol struct {
	name               string
	noIn, noGt, noSign bool
}

// part is the number of a symbol, or a set of tokens if that is -1.
type part struct {
	symbol int
	tokens [70]bool
}

type production struct {
	symbol, kind int
	parts        []part
}

// grammar has the productions of each symbol that was asked for.
type grammar struct {
	rules       []ruleWanted
	groups      map[string][]int
	numbers     map[symbol]int
	productions []production
	of          [][]int
	empty       map[int]bool // symbols with a production without parts
}

func newGrammar() *grammar {
	return grammarOf(rulesWanted())
}

func grammarOf(rules []ruleWanted) *grammar {
	return &grammar{rules: rules, groups: tokenGroups(), numbers: map[symbol]int{}, empty: map[int]bool{}}
}

// number returns the number of a symbol.
func (g *grammar) number(s symbol) int {
	if n, ok := g.numbers[s]; ok {
		return n
	}
	n := len(g.of)
	g.numbers[s] = n
	g.of = append(g.of, nil)
	for _, rule := range g.rules {
		if rule.name != s.name {
			continue
		}
		if parts, ok := g.partsOf(s, rule.parts); ok {
			g.productions = append(g.productions, production{n, rule.kind, parts})
			g.of[n] = append(g.of[n], len(g.productions)-1)
			g.empty[n] = g.empty[n] || len(parts) == 0
		}
	}
	return n
}

// partsOf returns the parts of a line under the restrictions of a symbol, or false
// if they exclude it.
func (g *grammar) partsOf(s symbol, text string) ([]part, bool) {
	var parts []part
	inside := false
	for i, word := range strings.Fields(text) {
		inside = inside && word != ")" && word != "]"
		if group := g.groups[word]; len(group) > 0 {
			if word == "in" && s.noIn || word == ">" && s.noGt {
				return nil, false
			}
			parts = append(parts, part{-1, tokenSet(group, s.noSign && i == 0)})
		} else {
			name, noSign := strings.CutSuffix(word, "'")
			name, noIn := strings.CutSuffix(name, "!in")
			name, noGt := strings.CutSuffix(name, "!>")
			inner := symbol{name: name, noIn: noIn, noGt: noGt, noSign: noSign || i == 0 && s.noSign}
			if !inside && name != "nl" {
				inner.noIn, inner.noGt = noIn || s.noIn, noGt || s.noGt
			}
			parts = append(parts, part{symbol: g.number(inner)})
		}
		inside = inside || word == "(" || word == "["
	}
	return parts, true
}

func tokenSet(kinds []int, onlyBeginners bool) [70]bool {
	var set [70]bool
	for _, kind := range kinds {
		set[kind] = !onlyBeginners || slices.Contains(beginners(), kind)
	}
	return set
}

// startOf returns the number of the symbol for a position.
func (g *grammar) startOf(p impl.Pos) int {
	s := symbol{noIn: p.NoIn, noGt: p.NoGt, noSign: p.NoSign}
	s.name = strings.Fields("1 2 3 4 5 6 7 8 9 10 11 12 13 14 15")[p.Level-1]
	if p.Dollar {
		s.name = "dollar"
	}
	return g.number(s)
}

// item is a production that begins at a token and has some of its parts.
type item struct{ production, dot, from int }

// span is a symbol that was derived from a token on.
type span struct{ symbol, from int }

// column has the items that fit the tokens up to a place.
type column struct {
	items []item
	seen  map[item]bool
	waits map[int][]item
	done  map[span]bool
}

// chart has a column before each token and after the last one.
type chart struct {
	g       *grammar
	start   int
	l       []impl.Token
	columns []*column
}

func newChart(g *grammar, p impl.Pos) chart {
	return chartFrom(g, g.startOf(p))
}

// chartFrom is the chart of no tokens for a symbol.
func chartFrom(g *grammar, start int) chart {
	c := chart{g: g, start: start}
	var items []item
	for _, i := range g.of[c.start] {
		items = append(items, item{i, 0, 0})
	}
	c.columns = []*column{c.closed(items)}
	return c
}

// closed adds to the items of a new column what follows from them.
func (c chart) closed(items []item) *column {
	here := len(c.columns)
	col := &column{seen: map[item]bool{}, waits: map[int][]item{}, done: map[span]bool{}}
	add := func(x item) {
		if !col.seen[x] {
			col.seen[x] = true
			col.items = append(col.items, x)
		}
	}
	for _, x := range items {
		add(x)
	}
	for k := 0; k < len(col.items); k++ {
		x := col.items[k]
		rule := c.g.productions[x.production]
		switch {
		case x.dot == len(rule.parts):
			col.done[span{rule.symbol, x.from}] = true
			waits := col.waits[rule.symbol]
			if x.from < here {
				waits = c.columns[x.from].waits[rule.symbol]
			}
			for _, w := range waits {
				add(item{w.production, w.dot + 1, w.from})
			}
		case rule.parts[x.dot].symbol >= 0:
			want := rule.parts[x.dot].symbol
			col.waits[want] = append(col.waits[want], x)
			for _, i := range c.g.of[want] {
				add(item{i, 0, here})
			}
			if c.g.empty[want] {
				add(item{x.production, x.dot + 1, x.from})
			}
		}
	}
	return col
}

// scanned is the chart with one more token, which counts as a token of this kind.
func (c chart) scanned(t impl.Token, kind int) chart {
	var items []item
	for _, x := range c.columns[len(c.columns)-1].items {
		rule := c.g.productions[x.production]
		if kind >= 0 && kind < 70 && x.dot < len(rule.parts) && rule.parts[x.dot].symbol < 0 && rule.parts[x.dot].tokens[kind] {
			items = append(items, item{x.production, x.dot + 1, x.from})
		}
	}
	next := chart{c.g, c.start, append(slices.Clone(c.l), t), slices.Clone(c.columns)}
	next.columns = append(next.columns, c.closed(items))
	return next
}

// with is the chart with one more token. A parenthesis decides what a length before
// it is.
func (c chart) with(t impl.Token) chart {
	last := len(c.l) - 1
	switch {
	case t.Kind == impl.TkBuiltin && t.Text == "length":
		return c.scanned(t, lengthAlone)
	case t.Kind == impl.TkLParen && last >= 0 && c.l[last].Kind == impl.TkBuiltin:
		c = chart{c.g, c.start, c.l[:last], c.columns[:last+1]}.scanned(c.l[last], impl.TkBuiltin)
	}
	return c.scanned(t, t.Kind)
}

// viable reports whether the tokens are the beginning of an expression.
func (c chart) viable() bool {
	return len(c.columns[len(c.columns)-1].items) > 0
}

// twig is a node with its kids, and the tokens from and up to which it was derived.
type twig struct {
	node     impl.Node
	from, to int
	kids     []twig
}

func (x twig) tree() []impl.Node {
	var kids [][]impl.Node
	for _, kid := range x.kids {
		kids = append(kids, kid.tree())
	}
	return joined(x.node, kids...)
}

// derivation is what a symbol has for nodes: several ones for a list.
type derivation []twig

// trees returns the trees of all derivations of all the tokens.
func (c chart) trees() []derivation {
	return c.derivations(c.start, 0, len(c.l), map[[3]int][]derivation{})
}

func (c chart) derivations(s, from, to int, known map[[3]int][]derivation) []derivation {
	key := [3]int{s, from, to}
	if l, ok := known[key]; ok {
		return l
	}
	var l []derivation
	if c.columns[to].done[span{s, from}] {
		for _, i := range c.g.of[s] {
			rule := c.g.productions[i]
			if !c.columns[to].seen[item{i, len(rule.parts), from}] {
				continue
			}
			for _, kids := range c.partial(item{i, len(rule.parts), from}, to, known) {
				l = append(l, kids.made(rule.kind, from, to))
			}
		}
	}
	known[key] = l
	return l
}

// pieces is what the parts of a production have for nodes, and their own tokens.
type pieces struct {
	nodes  derivation
	tokens []impl.Token
}

// partial returns the pieces of an item that ends before a token, for each way in
// which it does.
func (c chart) partial(x item, to int, known map[[3]int][]derivation) []pieces {
	if x.dot == 0 {
		return []pieces{{}}
	}
	before := item{x.production, x.dot - 1, x.from}
	last := c.g.productions[x.production].parts[x.dot-1]
	var l []pieces
	if last.symbol < 0 {
		for _, p := range c.partial(before, to-1, known) {
			l = append(l, pieces{p.nodes, append(slices.Clone(p.tokens), c.l[to-1])})
		}
		return l
	}
	for from := x.from; from <= to; from++ {
		if !c.columns[from].seen[before] || !c.columns[to].done[span{last.symbol, from}] {
			continue
		}
		for _, p := range c.partial(before, from, known) {
			for _, d := range c.derivations(last.symbol, from, to, known) {
				l = append(l, pieces{append(slices.Clone(p.nodes), d...), p.tokens})
			}
		}
	}
	return l
}

// made returns a node of this kind, derived from these tokens, with its kids, or the
// kids alone for no node.
func (p pieces) made(kind, from, to int) derivation {
	if kind == 0 {
		return p.nodes
	}
	n := impl.Node{Kind: kind}
	hasOp := slices.Contains([]int{impl.EBin, impl.EUnary, impl.EPre, impl.EPost, impl.EAssign}, kind)
	if kind == impl.EBin {
		n.Op = impl.OpCat
	}
	for _, t := range p.tokens {
		if t.Kind >= impl.TkNum && t.Kind <= impl.TkBuiltin {
			n.Text = t.Text
		} else if hasOp {
			n.Op = t.Kind
		}
	}
	if kind > impl.ENone {
		n = p.headOf(n)
	}
	return derivation{{n, from, to, p.nodes}}
}

// parseWanted is what ParseExpr should return.
type parseWanted struct {
	tree  []impl.Node
	count int
	fault impl.Fault
}

func faultOf(kind, at int) parseWanted {
	return parseWanted{fault: impl.Fault{Kind: kind, At: at}}
}

// sized is the result with a tree, unless it is too large.
func sized(tree []impl.Node, count int) parseWanted {
	switch {
	case len(tree) > 400:
		return faultOf(impl.FtLarge, 0)
	case depthWanted(tree, len(tree)-1) > maxDepthWanted:
		return faultOf(impl.FtDeep, 0)
	}
	return parseWanted{tree, count, impl.Fault{}}
}

// shownResult writes a result for a message.
func (w parseWanted) shownResult() string {
	if w.fault != (impl.Fault{}) {
		return fmt.Sprintf("%+v", w)
	}
	return fmt.Sprintf("%s and %d", nodesShown(w.tree), w.count)
}

// checkParse checks a result of ParseExpr.
func checkParse(t *testing.T, l []impl.Token, p impl.Pos, want parseWanted) {
	t.Helper()
	tree, count, fault := impl.ParseExpr(l, p)
	if count != want.count || fault != want.fault || !sameNodes(tree, want.tree) {
		t.Errorf("ParseExpr of %.200q at %+v: %s, want %s", textOf(l), p, parseWanted{tree, count, fault}.shownResult(), want.shownResult())
	}
}

// offsetWanted is the offset of a token, or of the end of the last one.
func offsetWanted(l []impl.Token, i int) int {
	switch {
	case len(l) == 0:
		return 0
	case i == len(l):
		return l[i-1].At + len(l[i-1].Text)
	}
	return l[i].At
}

// result is what ParseExpr should return for the tokens of a chart, of which all
// but the last one are viable, or for these and more behind them.
func (c chart) result(t *testing.T) parseWanted {
	t.Helper()
	known := c
	if !c.viable() {
		last := len(c.l) - 1
		known = chart{c.g, c.start, c.l[:last], c.columns[:last+1]}
	}
	trees := known.trees()
	switch len(trees) {
	case 0:
		return faultOf(impl.FtSyntax, offsetWanted(c.l, len(known.l)))
	case 1:
		return sized(trees[0][0].tree(), len(known.l))
	}
	t.Errorf("%q has %d derivations", textOf(known.l), len(trees))
	return parseWanted{}
}

// nestWanted finds the first place with too many open brackets by the sums of all
// the parts that end there: a closing bracket without an open one begins anew.
func nestWanted(l []impl.Token) int {
	for i := range l {
		open := 0
		for k := i; k >= 0; k-- {
			switch l[k].Text {
			case "(", "[", "{":
				open++
			case ")", "]", "}":
				open--
			}
			if open > maxOpenWanted {
				return i
			}
		}
	}
	return -1
}

// parseCheck tells results of ParseExpr by the grammar.
type parseCheck struct {
	g      *grammar
	lex    lexCheck
	tokens tokenCheck
}

func newParseCheck() parseCheck {
	return parseCheck{newGrammar(), newLexCheck(), newTokenCheck()}
}

func (c parseCheck) want(t *testing.T, l []impl.Token, p impl.Pos) parseWanted {
	t.Helper()
	if !posWanted(p) {
		return faultOf(impl.FtSyntax, 0)
	}
	if !c.lex.okWanted(c.tokens, l) {
		return faultOf(impl.FtLex, 0)
	}
	if i := nestWanted(l); i >= 0 {
		return faultOf(impl.FtDeep, l[i].At)
	}
	chart := newChart(c.g, p)
	for _, x := range l {
		if chart = chart.with(x); !chart.viable() {
			break
		}
	}
	return chart.result(t)
}

func (c parseCheck) check(t *testing.T, l []impl.Token, p impl.Pos) {
	t.Helper()
	checkParse(t, l, p, c.want(t, l, p))
}

// placed gives each token an offset of its own, so that a fault tells where it is.
func placed(l []impl.Token) []impl.Token {
	at := 3
	l = slices.Clone(l)
	for i, x := range l {
		l[i].At = at
		at += len(x.Text) + i%3
	}
	return l
}

// codeOf makes tokens like wordsOf, also NL for a newline and #x for a comment, at
// some offsets.
func codeOf(text string) []impl.Token {
	l := wordsOf(text)
	for i, x := range l {
		if x.Text == "NL" {
			l[i] = impl.Token{Kind: impl.TkNewline, Text: "\n"}
		} else if x.Text[0] == '#' {
			l[i].Kind = impl.TkComment
		}
	}
	return placed(l)
}

// treeOf is the tree of a text in full parentheses.
func treeOf(t *testing.T, text string) []impl.Node {
	t.Helper()
	l, err := readFull(wordsOf(text))
	if err != nil {
		t.Fatal(err)
	}
	return l
}

// exprCase is a text of tokens, the tree of it in full parentheses, and the number
// of its tokens. Without a tree there is a syntax fault at that token.
type exprCase struct {
	text, tree string
	count      int
}

func (x exprCase) want(t *testing.T, l []impl.Token) parseWanted {
	t.Helper()
	if x.tree == "" {
		return faultOf(impl.FtSyntax, offsetWanted(l, x.count))
	}
	return parseWanted{treeOf(t, x.tree), x.count, impl.Fault{}}
}

// checkExprs checks cases at a position, and that the grammar says the same.
func checkExprs(t *testing.T, p impl.Pos, cases []exprCase) {
	t.Helper()
	c := newParseCheck()
	for _, x := range cases {
		l := codeOf(x.text)
		checkParse(t, l, p, x.want(t, l))
		c.check(t, l, p)
	}
}

func TestP7Constants(t *testing.T) {
	if impl.MaxOpen != 40 {
		t.Error("MaxOpen is", impl.MaxOpen)
	}
}

func TestP7ReadExprExamples(t *testing.T) {
	for _, x := range []struct{ s, same, full string }{
		{"a b+c", "a (b+c)", "( a ( b + c ) )"},
		{"2^3^2", "2^(3^2)", "( 2 ^ ( 3 ^ 2 ) )"},
		{"a-b-c", "(a-b)-c", "( ( a - b ) - c )"},
		{"!x~y", "(!x)~y", "( ( ! x ) ~ y )"},
		{"a || b && c", "a || (b && c)", "( a || ( b && c ) )"},
		{"x=y=z", "x=(y=z)", "( x = ( y = z ) )"},
		{"length/2", "length()/2", "( length ( ) / 2 )"},
		{"a ? b : c ? d : e", "a ? b : (c ? d : e)", "( a ? b : ( c ? d : e ) )"},
		{"-a^2", "-(a^2)", "( - ( a ^ 2 ) )"},
		{"2 ^ -3", "2^(-3)", "( 2 ^ ( - 3 ) )"},
		{"$x++", "($x++)", "( $ x ++ )"},
		{"$++i", "$(++i)", "( $ ( ++ i ) )"},
		{"a = b ? c d : e - -1 ^ 2", "a=(b?(c d):(e-(-(1^2))))", "( a = ( b ? ( c d ) : ( e - ( - ( 1 ^ 2 ) ) ) ) )"},
		{"(a, b) in c in d", "((a,b) in c) in d", "( ( ( a , b ) in c ) in d )"},
		{"a in b in c", "(a in b) in c", "( ( a in b ) in c )"},
		{"((a))", "a", "a"},
		{"a ||\n b", "a||b", "( a || b )"},
		{"a", " ( a ) ", "a"},
		{"f ( 1 )", "(f) (1)", "( f 1 )"},
		{"f(1)", "f((1))", "&f ( 1 )"},
		{"$x = $y \t \\\n /2", "$x=(($y)/2)", "( $ x = ( ( $ y ) / 2 ) )"},
	} {
		want := treeOf(t, x.full)
		for _, s := range []string{x.s, x.same, "(" + x.s + ")"} {
			if tree, fault := impl.ReadExpr(s); fault != (impl.Fault{}) || !sameNodes(tree, want) {
				t.Errorf("ReadExpr(%q) = %s, %v, want %s", s, nodesShown(tree), fault, x.full)
			}
		}
	}
}

func TestP7ReadExprFaults(t *testing.T) {
	for _, x := range []struct {
		s        string
		kind, at int
	}{
		{"a +", 3, 3}, {"f(1,", 3, 4}, {"++5", 3, 2}, {"a ? b", 3, 5}, {"(a, b) c", 3, 7}, {"(a, b)", 3, 6}, {"a in 1", 3, 5}, {"1 = 2", 3, 2},
		{"", 3, 0}, {" \t", 3, 0}, {"a<b==c", 3, 3}, {"x+y=z", 3, 3}, {"(x)=1", 3, 3}, {"a ~ b ~ c", 3, 6}, {"f(1,2,3,4,5,6,7)", 3, 13}, {"a[]", 3, 2},
		{"()", 3, 1}, {"a)", 3, 1}, {"$", 3, 1}, {"(a", 3, 2}, {"a /re/", 3, 6}, {"a || b = c", 3, 7}, {"a ? b : c = d", 3, 10}, {"a\n|| b", 3, 1},
		{"a 'x", 2, 2}, {"a + 'x", 2, 4}, {") 'x", 2, 2}, {"'", 2, 0}, {"a \"b", 2, 2},
		{"a + ", 3, 3}, {"a + # b", 3, 4}, {"a # b", 3, 2}, {"a || # b", 3, 8}, {"a;", 3, 1}, {"{a}", 3, 0}, {"print a", 3, 0}, {"a | b", 3, 2}, {"a >> b", 3, 2},
		{strings.Repeat("(", 40) + "a" + strings.Repeat(")", 40) + ")", 3, 81},
		{strings.Repeat("(", 41) + "a" + strings.Repeat(")", 41), 4, 40},
		{strings.Repeat("{", 39) + "[(", 4, 40},
		{strings.Repeat("!", 40) + "a", 4, 0},
		{strings.Repeat("!", 40) + "a b )", 4, 0},
		{"a" + strings.Repeat("+a", 199), 4, 0},
		{"a" + strings.Repeat("+a", 200), 1, 0},
		{"a" + strings.Repeat("+a", 200) + "+", 3, 402},
		{"a" + strings.Repeat("+a", 200) + ")", 1, 0},
		{strings.Repeat("a ", 1500), 1, 0},
		{strings.Repeat("a ", 1500) + "a", 1, 0},
		{strings.Repeat("!", 3000), 3, 3000},
		{strings.Repeat("!", 3001), 1, 0},
		{strings.Repeat("'", 3001), 1, 0},
	} {
		tree, fault := impl.ReadExpr(x.s)
		if len(tree) != 0 || fault != (impl.Fault{Kind: x.kind, At: x.at}) {
			t.Errorf("ReadExpr(%.80q) = %s, %v, want a fault of kind %d at %d", x.s, nodesShown(tree), fault, x.kind, x.at)
		}
	}
}

func TestP7ReadExprOfNestedExpressions(t *testing.T) {
	for _, x := range []struct {
		before, after string
		n, depth      int
	}{
		{"(", ")", 40, 1}, {"!", "", 39, 40}, {"- ", "", 39, 40}, {"$", "", 39, 40}, {"x[", "]", 39, 40}, {"f(", ")", 39, 40}, {"x=", "", 39, 40}, {"b^", "", 39, 40},
		{"", " in b", 39, 40}, {"", "-b", 39, 40}, {"", "&&b", 39, 40}, {"", " b", 39, 40}, {"b?c:", "", 39, 40}, {"(", ")+b", 39, 40}, {"-(", ")", 39, 40}, {"((", "))", 20, 1},
	} {
		s := strings.Repeat(x.before, x.n) + "a" + strings.Repeat(x.after, x.n)
		tree, fault := impl.ReadExpr(s)
		if fault != (impl.Fault{}) || len(tree) == 0 || depthWanted(tree, len(tree)-1) != x.depth {
			t.Errorf("ReadExpr(%q) = %s, %v, want depth %d", s, nodesShown(tree), fault, x.depth)
		}
		s = x.before + s + x.after
		if tree, fault := impl.ReadExpr(s); len(tree) != 0 || fault.Kind != impl.FtDeep {
			t.Errorf("ReadExpr(%q) = %s, %v", s, nodesShown(tree), fault)
		}
	}
}

func TestP7PositionExamples(t *testing.T) {
	noIn, noGt, noSign := impl.Pos{Level: 1, NoIn: true}, impl.Pos{Level: 1, NoGt: true}, impl.Pos{Level: 1, NoSign: true}
	dollar := impl.Pos{Level: impl.LvField, Dollar: true}
	checkExprs(t, impl.Top(), []exprCase{{"a > b", "( a > b )", 3}, {"a in b", "( a in b )", 3}, {"- a", "( - a )", 2}})
	checkExprs(t, noGt, []exprCase{
		{"a > b", "a", 1}, {"a >= b", "( a >= b )", 3}, {"( a > b )", "( a > b )", 5}, {"x [ a > b ] > c", "x [ ( a > b ) ]", 6}, {"a ? b > c : d", "", 3},
		{"x = a > b", "( x = a )", 3}, {"&f ( a > b , c ) > d", "&f ( ( a > b ) , c )", 8}, {"( a , b > c ) in d > e", "( ( a , ( b > c ) ) in d )", 9},
		{"$ ( a > b ) > c", "( $ ( a > b ) )", 6}, {"- a > b", "( - a )", 2}, {"a in b", "( a in b )", 3}, {"a || b > c", "( a || b )", 3}, {"> a", "", 0},
	})
	checkExprs(t, noIn, []exprCase{
		{"a in b", "a", 1}, {"( a in b )", "( a in b )", 5}, {"( a in b ) in c", "( a in b )", 5}, {"( a , b ) in c", "", 2}, {"( ( a , b ) in c )", "( ( a , b ) in c )", 9},
		{"x [ a in b ] in c", "x [ ( a in b ) ]", 6}, {"a ? b in c : d", "", 3}, {"a && b in c", "( a && b )", 3}, {"a > b", "( a > b )", 3}, {"! ( a , b ) in c", "", 3},
		{"&f ( ( a , b ) in c ) in d", "&f ( ( ( a , b ) in c ) )", 10}, {"x = a in b", "( x = a )", 3},
	})
	checkExprs(t, noSign, []exprCase{
		{"- a", "", 0}, {"+ a", "", 0}, {"! a", "", 0}, {"++ a", "", 0}, {"-- a", "", 0}, {"/r/ ~ a", "", 0}, {"( - a ) - b", "( ( - a ) - b )", 6}, {"a - - b", "( a - ( - b ) )", 4},
		{"a ~ /r/", "( a ~ ( /r/ ) )", 3}, {"$ ++ a", "( $ ( ++ a ) )", 3}, {"a ++", "( a ++ )", 2}, {"a ? - b : ! c", "( a ? ( - b ) : ( ! c ) )", 7}, {"x [ - a ]", "x [ ( - a ) ]", 5},
		{"( - a , /r/ ) in b", "( ( ( - a ) , ( /r/ ) ) in b )", 8}, {"length - a", "( length ( ) - a )", 3},
	})
	checkExprs(t, impl.Pos{Level: impl.LvPrimary}, []exprCase{
		{"a > b", "a", 1}, {"a = b", "a", 1}, {"a ++", "a", 1}, {"a b", "a", 1}, {"$ a", "", 0}, {"++ a", "", 0}, {"- a", "", 0}, {"( a > b ) c", "( a > b )", 5}, {"( a , b ) in c", "", 2},
		{"a [ b = c ] = d", "a [ ( b = c ) ]", 6}, {"/r/ b", "( /r/ )", 1}, {"&f ( ) b", "&f ( )", 3},
	})
	checkExprs(t, dollar, []exprCase{
		{"++ a", "( ++ a )", 2}, {"-- a ++", "( -- a )", 2}, {"++ $ a", "( ++ $ a )", 3}, {"++ a [ b ] c", "( ++ a [ b ] )", 5}, {"a ++", "a", 1}, {"$ a", "( $ a )", 2}, {"- a", "", 0},
		{"++ 5", "", 1}, {"++ ( a )", "", 1}, {"a ^ b", "a", 1}, {"++ a ^ b", "( ++ a )", 2}, {"( a , b ) in c", "", 2}, {"/r/", "( /r/ )", 1},
	})
	checkExprs(t, impl.Pos{Level: impl.LvField}, []exprCase{{"++ a", "", 0}, {"$ ++ a", "( $ ( ++ a ) )", 3}, {"a ++", "a", 1}})
	checkExprs(t, impl.Pos{Level: impl.LvField, Dollar: true, NoSign: true}, []exprCase{{"++ a", "", 0}, {"$ ++ a", "( $ ( ++ a ) )", 3}, {"/r/", "", 0}})
	checkExprs(t, impl.Pos{Level: impl.LvIncr}, []exprCase{{"++ a", "( ++ a )", 2}, {"a ++ ^ b", "( a ++ )", 2}, {"a ^ b", "a", 1}, {"- a", "", 0}})
	checkExprs(t, impl.Pos{Level: impl.LvPow}, []exprCase{{"a ^ - b ^ c * d", "( a ^ ( - ( b ^ c ) ) )", 6}, {"- a ^ b", "", 0}})
	checkExprs(t, impl.Pos{Level: impl.LvIn}, []exprCase{{"( a , b ) in c && d", "( ( a , b ) in c )", 7}, {"a in b in c ? d : e", "( ( a in b ) in c )", 5}})
	checkExprs(t, impl.Pos{Level: impl.LvMatch}, []exprCase{{"( a , b ) in c && d", "", 2}, {"a ~ b in c", "( a ~ b )", 3}})
	for _, p := range []impl.Pos{{}, {Level: 16}, {Level: 13, Dollar: true}} {
		for _, text := range []string{"a > b", "a in b", "- a", "", "a"} {
			checkParse(t, codeOf(text), p, faultOf(impl.FtSyntax, 0))
		}
	}
}

// explorer has each list of tokens, up to a length, of which all but the last ones
// are the beginning of an expression.
type explorer struct {
	t        *testing.T
	p        impl.Pos
	alphabet [][]impl.Token
	accepted int
	faults   int
}

// alphabetOf has the words of a text, a called function with its parenthesis.
func alphabetOf(text string) [][]impl.Token {
	var alphabet [][]impl.Token
	for _, x := range codeOf(text) {
		group := []impl.Token{x}
		if x.Kind == impl.TkFunc {
			group = append(group, wordsOf("(")...)
		}
		alphabet = append(alphabet, group)
	}
	return alphabet
}

// visit goes on from the tokens of a chart, for which the result is known.
func (e *explorer) visit(c chart, known parseWanted, more int) {
	previous := 0
	if len(c.l) > 0 {
		previous = c.l[len(c.l)-1].Kind
	}
	for _, group := range e.alphabet {
		if len(followers(group[:1], previous)) == 0 {
			continue
		}
		next := c
		for _, x := range group {
			x.At = offsetWanted(next.l, len(next.l)) + len(next.l)%3
			next = next.with(x)
		}
		want := known
		if next.viable() {
			want = next.result(e.t)
		} else if want.fault != (impl.Fault{}) {
			want.fault.At = next.l[len(c.l)].At
		}
		checkParse(e.t, next.l, e.p, want)
		if want.fault == (impl.Fault{}) {
			e.accepted++
		} else {
			e.faults++
		}
		if more > 1 && next.viable() {
			e.visit(next, want, more-1)
		}
	}
}

func (e *explorer) explore(g *grammar, more int) {
	e.t.Helper()
	checkParse(e.t, nil, e.p, faultOf(impl.FtSyntax, 0))
	e.visit(newChart(g, e.p), faultOf(impl.FtSyntax, 0), more)
}

func TestP7ShortLists(t *testing.T) {
	t.Parallel()
	g := newGrammar()
	all := "a 1 \"s\" /r/ length sin &f ( ) [ ] , = /= || && in ~ !~ < > + - * / ^ ! ++ -- $ ? : NL #c { ; | >> if"
	e := &explorer{t: t, p: impl.Top(), alphabet: alphabetOf(all)}
	e.explore(g, 4)
	few := &explorer{t: t, p: impl.Top(), alphabet: alphabetOf("a &f ( ) [ ] , = && in ~ < + ^ ++ $ ? : NL")}
	few.explore(g, 6)
	if e.accepted < 15000 || e.faults < 80000 || few.accepted < 10000 || few.faults < 200000 {
		t.Error(e.accepted, e.faults, few.accepted, few.faults)
	}
}

func TestP7ShortListsAtEachPosition(t *testing.T) {
	t.Parallel()
	g := newGrammar()
	positions := validPositions()
	accepted, faults := 0, 0
	for _, p := range positions {
		e := &explorer{t: t, p: p, alphabet: alphabetOf("a /r/ &f ( ) [ , = || in ~ > - / ^ ! ++ $ ? :")}
		e.explore(g, 3)
		accepted += e.accepted
		faults += e.faults
	}
	if len(positions) != 15*8+8 || accepted < 15000 || faults < 80000 {
		t.Error(len(positions), accepted, faults)
	}
}

func TestP7MissingRightOperands(t *testing.T) {
	t.Parallel()
	c := newParseCheck()
	var prefixes []string
	for _, op := range strings.Fields("^ * / % + - < <= == != > >= ~ !~ && || = += -= *= /= %= ^= in ?") {
		prefixes = append(prefixes, "a "+op, "( a "+op, "x [ a "+op, "b = a "+op)
	}
	for _, text := range []string{
		"- ", "+", "!", "++", "--", "$", "$ ++", "$ --", "$ $", "a ^ -", "a ^ !", "a * -", "a + - !", "a - ++", "a ++ + --", "a -- - $", "a ? b :", "a ? b : c ? d :", "( ", "( (", "( a ,", "( a , b , c ,",
		"( a , b ) in", "x [", "x [ a ,", "&f ( a ,", "sin ( a ,", "length ( a ,", "a (", "a x [", "a $", "a || NL", "a && NL #c NL", "( a , NL", "&f ( a , NL NL", "a || #c NL",
	} {
		prefixes = append(prefixes, strings.TrimSpace(text))
	}
	begins := []int{3, 4, 5, 6, 7, 8, impl.TkLParen, impl.TkDollar, impl.TkIncr, impl.TkDecr, impl.TkAdd, impl.TkSub, impl.TkNot}
	faults := 0
	for _, text := range prefixes {
		l := codeOf(text)
		n := len(l)
		checkParse(t, l, impl.Top(), faultOf(impl.FtSyntax, l[n-1].At+len(l[n-1].Text)))
		for _, x := range followers(sampleTokens(), l[n-1].Kind) {
			longer := placed(append(slices.Clone(l), x, impl.Token{Kind: impl.TkLParen, Text: "("}))
			c.check(t, longer, impl.Top())
			c.check(t, longer[:n+1], impl.Top())
			skipped := x.Kind <= impl.TkComment && (strings.Contains(text, "|| ") || strings.Contains(text, "&& ") || slices.Contains([]string{"||", "&&", ","}, l[n-1].Text) || l[n-1].Kind <= impl.TkComment)
			if !skipped && !slices.Contains(begins, x.Kind) {
				checkParse(t, longer[:n+1], impl.Top(), faultOf(impl.FtSyntax, longer[n].At))
				faults++
			}
		}
	}
	if faults < 6000 {
		t.Error("only", faults, "faults")
	}
}

// spelledOp is an operator as a word, or nothing for OpCat.
func spelledOp(op int) string {
	return spellingsWanted()[op]
}

// pairWanted is the tree of a op b other c by the levels of the operators, where
// groups is 'l' or 'r' for operators of one level that group to a side.
func pairWanted(first, second string, a, b int, groups byte) (string, bool) {
	switch {
	case a > b || a == b && groups == 'l':
		return "( ( a " + first + " b ) " + second + " c )", true
	case a < b || a == b && groups == 'r':
		return "( a " + first + " ( b " + second + " c ) )", true
	}
	return "( a " + first + " b )", false
}

// opPair is two operators with the tree of a op b next c, and whether this is all of
// it.
type opPair struct {
	op, next int
	tree     string
	all      bool
}

func opPairs() []opPair {
	var l []opPair
	sides := "llnnlllr"
	bins := binsWanted()
	for i, row := range bins {
		for k, other := range bins {
			for _, op := range row.ops {
				for _, next := range other.ops {
					tree, all := pairWanted(spelledOp(op), spelledOp(next), i, k, sides[i])
					l = append(l, opPair{op, next, tree, all})
				}
			}
		}
	}
	return l
}

func TestP7EachOperatorBesideEachOther(t *testing.T) {
	pairs := opPairs()
	if len(pairs) != 17*17 {
		t.Error(len(pairs), "pairs")
	}
	for _, x := range pairs {
		first, second := spelledOp(x.op), spelledOp(x.next)
		want := exprCase{"a " + first + " b " + second + " c", x.tree, len(codeOf("a " + first + " b"))}
		if x.all {
			want.count = len(codeOf(want.text))
		}
		left, right := "( a "+first+" b ) "+second+" c", "a "+first+" ( b "+second+" c )"
		checkExprs(t, impl.Top(), []exprCase{
			want,
			{left, "( ( a " + first + " b ) " + second + " c )", len(codeOf(left))},
			{right, "( a " + first + " ( b " + second + " c ) )", len(codeOf(right))},
		})
	}
}

func TestP7OtherOperatorsBesideEachOther(t *testing.T) {
	for i, row := range binsWanted() {
		for _, op := range row.ops {
			s := spelledOp(op)
			two, three, five := len(codeOf("a "+s+" b")), len(codeOf("a "+s+" b in c")), len(codeOf("a "+s+" b ? c : d"))
			cases := []exprCase{
				{"a = b " + s + " c", "( a = ( b " + s + " c ) )", two + 2},
				{"a " + s + " b = c", "( a " + s + " b )", two},
				{"a " + s + " b ? c : d", "( ( a " + s + " b ) ? c : d )", five},
				{"a ? b : c " + s + " d", "( a ? b : ( c " + s + " d ) )", five},
				{"a ? b " + s + " c : d", "( a ? ( b " + s + " c ) : d )", five},
				{"a ++ " + s + " b --", "( ( a ++ ) " + s + " ( b -- ) )", two + 2},
				{"$ a " + s + " $ b", "( ( $ a ) " + s + " ( $ b ) )", two + 2},
			}
			if i < 2 {
				cases = append(cases, exprCase{"a " + s + " b in c", "( a " + s + " ( b in c ) )", three}, exprCase{"a in b " + s + " c", "( ( a in b ) " + s + " c )", three})
			} else {
				cases = append(cases, exprCase{"a " + s + " b in c", "( ( a " + s + " b ) in c )", three}, exprCase{"a in b " + s + " c", "( a in b )", 3})
			}
			for _, sign := range []string{"-", "+", "!"} {
				if op == impl.TkPow {
					cases = append(cases, exprCase{sign + " a ^ b", "( " + sign + " ( a ^ b ) )", 4})
				} else {
					cases = append(cases, exprCase{sign + " a " + s + " b", "( ( " + sign + " a ) " + s + " b )", two + 1})
				}
				if op != impl.OpCat {
					cases = append(cases, exprCase{"a " + s + " " + sign + " b", "( a " + s + " ( " + sign + " b ) )", two + 1}, exprCase{"a " + s + " ++ b", "( a " + s + " ( ++ b ) )", two + 1})
				}
			}
			checkExprs(t, impl.Top(), cases)
		}
	}
	checkExprs(t, impl.Top(), []exprCase{
		{"a ! b", "a", 1}, {"a ++ b", "( ( a ++ ) b )", 3}, {"1 ++ b", "1", 1}, {"a ++ ++", "( a ++ )", 2}, {"++ a ++", "( ++ a )", 2}, {"++ ++ a", "", 1}, {"$ ++ ++ a", "", 2},
		{"++ $ ++ a", "( ++ $ ( ++ a ) )", 4}, {"$ ++ a ++", "( $ ( ++ a ) ++ )", 4}, {"$ - a", "", 1}, {"$ a ^ b", "( ( $ a ) ^ b )", 4}, {"$ $ a b", "( ( $ ( $ a ) ) b )", 4},
		{"a = b = c", "( a = ( b = c ) )", 5}, {"a += b -= c *= d", "( a += ( b -= ( c *= d ) ) )", 7}, {"a ? b : c ? d : e", "( a ? b : ( c ? d : e ) )", 9}, {"a ? b ? c : d : e", "( a ? ( b ? c : d ) : e )", 9},
		{"a ? b = c : d", "", 3}, {"a ? b : c = d", "( a ? b : c )", 5}, {"a = b ? c : d", "( a = ( b ? c : d ) )", 7}, {"a ? ( b = c ) : d", "( a ? ( b = c ) : d )", 9}, {"a ? b , c : d", "", 3}, {"a ? b ) : d", "", 3},
		{"a in b in c", "( ( a in b ) in c )", 5}, {"( a , b ) in c in d ? e : f", "( ( ( ( a , b ) in c ) in d ) ? e : f )", 13}, {"( a , b ) in c d", "( ( a , b ) in c )", 7}, {"a in ( b )", "", 2}, {"a in &f (", "", 2},
		{"a in b [ c ]", "( a in b )", 3}, {"a in b = c", "( a in b )", 3}, {"( a ) in b", "( a in b )", 5}, {"( ( a , b ) ) in c", "", 6}, {"( a , b ) , c", "", 5}, {"- ( a , b ) in c", "", 3}, {"a + ( b , c ) in d", "", 4},
		{"a ( b , c ) in d", "", 3}, {"a ~ ( b , c ) in d", "", 4}, {"a || ( b , c ) in d", "( a || ( ( b , c ) in d ) )", 9}, {"a = ( b , c ) in d", "( a = ( ( b , c ) in d ) )", 9}, {"$ ( a , b )", "", 3},
		{"! x = y", "( ! x )", 2}, {"a && b = c", "( a && b )", 3}, {"a b = c", "( a b )", 2},
	})
}

func TestP7NewlinesAndComments(t *testing.T) {
	for _, nl := range []string{"", "NL", "NL NL", "#c NL", "NL #c NL #d NL NL"} {
		n := len(codeOf(nl))
		checkExprs(t, impl.Top(), []exprCase{
			{"a || " + nl + " b", "( a || b )", 3 + n}, {"a && " + nl + " b", "( a && b )", 3 + n}, {"a || " + nl + " b && " + nl + " c", "( a || ( b && c ) )", 5 + 2*n},
			{"&f ( a , " + nl + " b )", "&f ( a , b )", 6 + n}, {"sin ( a , " + nl + " b )", "sin ( a , b )", 6 + n}, {"x [ a , " + nl + " b ]", "x [ a , b ]", 6 + n},
			{"( a , " + nl + " b ) in c", "( ( a , b ) in c )", 7 + n}, {"( a , " + nl + " b , " + nl + " c ) in d", "( ( a , b , c ) in d )", 9 + 2*n},
			{"a || " + nl + " - b", "( a || ( - b ) )", 4 + n}, {"a || " + nl + " /r/", "( a || ( /r/ ) )", 3 + n}, {"a || b " + nl, "( a || b )", 3},
			{"a || " + nl + " )", "", 2 + n}, {"a || " + nl, "", 2 + n}, {"&f ( a , " + nl + " )", "", 4 + n}, {"( a , " + nl, "", 3 + n},
		})
	}
	for _, x := range []exprCase{
		{"a @ || b", "a", 1}, {"a @", "a", 1}, {"@ a", "", 0}, {"@", "", 0}, {"a + @ b", "", 2}, {"a @ + b", "a", 1}, {"a ~ @ b", "", 2}, {"a < @ b", "", 2}, {"a ^ @ b", "", 2}, {"a * @ b", "", 2}, {"a @ b", "a", 1},
		{"a = @ b", "", 2}, {"a @ = b", "a", 1}, {"a ? @ b : c", "", 2}, {"a @ ? b : c", "a", 1}, {"a ? b @ : c", "", 3}, {"a ? b : @ c", "", 4}, {"- @ a", "", 1}, {"! @ a", "", 1}, {"$ @ a", "", 1}, {"++ @ a", "", 1}, {"a @ ++", "a", 1},
		{"( @ a )", "", 1}, {"( a @ )", "", 2}, {"&f ( @ a )", "", 2}, {"&f ( @ )", "", 2}, {"&f ( a @ )", "", 3}, {"&f ( a @ , b )", "", 3}, {"x [ @ a ]", "", 2}, {"x [ a @ ]", "", 3}, {"x @ [ a ]", "x", 1},
		{"a in @ b", "", 2}, {"a @ in b", "a", 1}, {"( a , b @ ) in c", "", 4}, {"( a , b ) @ in c", "", 5}, {"( a , b ) in @ c", "", 6}, {"length @", "length ( )", 1}, {"length @ ( a )", "length ( )", 1}, {"sin @ ( a )", "", 1}, {"( a || b @ )", "", 4},
	} {
		for _, nl := range []string{"NL", "#c NL", "NL NL"} {
			checkExprs(t, impl.Top(), []exprCase{{strings.ReplaceAll(x.text, "@", nl), x.tree, x.count}})
		}
	}
	checkExprs(t, impl.Top(), []exprCase{{"a #c", "a", 1}, {"a + #c", "", 2}, {"#c", "", 0}, {"a || #c", "", 3}, {"a && NL #c", "", 4}, {"( a #c", "", 2}})
}

func TestP7Lists(t *testing.T) {
	for _, x := range []struct {
		before, after string
		none, one     bool
		tree          string
	}{
		{"&f (", ")", true, true, "&f ( @ )"}, {"sin (", ")", true, true, "sin ( @ )"}, {"length (", ")", true, true, "length ( @ )"}, {"x [", "]", false, true, "x [ @ ]"},
		{"(", ") in b", false, true, "( ( @ ) in b )"}, {"a &f (", ")", true, true, "( a &f ( @ ) )"}, {"$ x [", "]", false, true, "( $ x [ @ ] )"}, {"! substr (", ")", true, true, "( ! substr ( @ ) )"},
		{"++ x [", "]", false, true, "( ++ x [ @ ] )"}, {"a = (", ") in b", false, true, "( a = ( ( @ ) in b ) )"},
	} {
		open := len(codeOf(x.before))
		for n := range 10 {
			names := strings.Fields("e f g h i j k l m")[:n]
			list := strings.Join(names, " , ")
			text := x.before + " " + list + " " + x.after
			want := exprCase{text, strings.ReplaceAll(x.tree, "@", list), len(codeOf(text))}
			switch {
			case n == 0 && !x.none:
				want.tree, want.count = "", open
			case n == 1:
				want.tree = strings.ReplaceAll(want.tree, "( e ) in", "e in")
			case n > maxArgsWanted:
				want.tree, want.count = "", open+2*maxArgsWanted-1
			}
			checkExprs(t, impl.Top(), []exprCase{want})
			if n == 0 {
				continue
			}
			most := min(n, maxArgsWanted)
			checkExprs(t, impl.Top(), []exprCase{
				{x.before + " " + list, "", open + 2*most - 1},
				{x.before + " " + list + " }", "", open + 2*most - 1},
				{x.before + " " + list + " ;", "", open + 2*most - 1},
				{x.before + " " + list + " ,", "", open + 2*most - 1 + min(1, max(0, maxArgsWanted-n))},
				{x.before + " , " + list, "", open},
				{x.before + " " + list + " , ) ]", "", open + 2*most - 1 + min(1, max(0, maxArgsWanted-n))},
			})
		}
	}
	checkExprs(t, impl.Top(), []exprCase{
		{"&f ( a ]", "", 3}, {"x [ a )", "", 3}, {"( a ]", "", 2}, {"( a , b ] in c", "", 4}, {"&f ( a = b , c ? d : e , ( f , g ) in h , - i )", "&f ( ( a = b ) , ( c ? d : e ) , ( ( f , g ) in h ) , ( - i ) )", 23},
		{"x [ a = b , y [ c ] ]", "x [ ( a = b ) , y [ c ] ]", 11}, {"&f ( &f ( ) , ( ( a ) ) , x [ 1 , 2 ] )", "&f ( &f ( ) , a , x [ 1 , 2 ] )", 19}, {"&f ( a b )", "&f ( ( a b ) )", 5}, {"&f ( a , , b )", "", 4}, {"( , a ) in b", "", 1},
		{"x [ a ] [ b ]", "x [ a ]", 4}, {"&f ( ) ( a )", "( &f ( ) a )", 6}, {"&f ( ) [ a ]", "&f ( )", 3}, {"1 [ a ]", "1", 1}, {"( x ) [ a ]", "x", 3}, {"( a , b ) in x [ c ]", "( ( a , b ) in x )", 7},
	})
}

func TestP7Length(t *testing.T) {
	checkExprs(t, impl.Top(), []exprCase{
		{"length", "length ( )", 1}, {"length ( )", "length ( )", 3}, {"length ( a )", "length ( a )", 4}, {"length ( a , b )", "length ( a , b )", 6}, {"length length", "( length ( ) length ( ) )", 2}, {"length ( ) length", "( length ( ) length ( ) )", 4},
		{"length ( a ) length ( b )", "( length ( a ) length ( b ) )", 8}, {"length ( length )", "length ( length ( ) )", 4}, {"length ( length ( length ) )", "length ( length ( length ( ) ) )", 7}, {"length ^ 2", "( length ( ) ^ 2 )", 3}, {"- length", "( - length ( ) )", 2},
		{"length - 1", "( length ( ) - 1 )", 3}, {"length / 2", "( length ( ) / 2 )", 3}, {"length a", "( length ( ) a )", 2}, {"a length", "( a length ( ) )", 2}, {"length $ a", "( length ( ) ( $ a ) )", 3}, {"$ length", "( $ length ( ) )", 2}, {"$ length ++", "( $ length ( ) ++ )", 3},
		{"length ++", "length ( )", 1}, {"length = 1", "length ( )", 1}, {"length [ 1 ]", "length ( )", 1}, {"++ length", "", 1}, {"length in a", "( length ( ) in a )", 3}, {"length ? length : length", "( length ( ) ? length ( ) : length ( ) )", 5},
		{"( length )", "length ( )", 3}, {"( length ) ( a )", "( length ( ) a )", 6}, {"length )", "length ( )", 1}, {"length NL", "length ( )", 1}, {"length (", "", 2}, {"length ( a", "", 3}, {"x [ length ]", "x [ length ( ) ]", 4}, {"&f ( length , 1 )", "&f ( length ( ) , 1 )", 6}, {"a in length", "", 2},
	})
	count := 0
	for name := range builtinSet() {
		checkExprs(t, impl.Top(), []exprCase{{name + " ( )", name + " ( )", 3}, {name + " ( a ) b", "( " + name + " ( a ) b )", 5}})
		if name == "length" {
			continue
		}
		count++
		for _, rest := range []string{"", "a", "+ a", "/ a", ")", "NL", "length", "[ a ]"} {
			checkExprs(t, impl.Top(), []exprCase{{name + " " + rest, "", 1}, {"a = " + name + " " + rest, "", 3}})
		}
	}
	if count != 20 {
		t.Error(count, "builtins")
	}
}

func TestP7Targets(t *testing.T) {
	lvalues := []string{"a", "a [ 1 ]", "a [ 1 , b ]"}
	for _, inner := range []string{"a", "1", "a [ 1 ]", "&f ( )", "length ( )", "( $ a )", "( a + b )", "( ++ a )", "( /r/ )"} {
		lvalues = append(lvalues, "$ "+inner)
	}
	for _, x := range lvalues {
		n := len(codeOf(x))
		tree := x
		if n > 1 && x[0] == '$' {
			tree = "( " + x + " )"
		}
		for _, op := range strings.Fields("= += -= *= /= %= ^=") {
			checkExprs(t, impl.Top(), []exprCase{
				{x + " " + op + " 1", "( " + x + " " + op + " 1 )", n + 2}, {"( " + x + " ) " + op + " 1", tree, n + 2}, {"( ( " + x + " ) ) " + op + " 1", tree, n + 4},
				{"b = " + x + " " + op + " 1", "( b = ( " + x + " " + op + " 1 ) )", n + 4}, {"1 + " + x + " " + op + " 1", "( 1 + " + tree + " )", n + 2}, {"- " + x + " " + op + " 1", "( - " + tree + " )", n + 1},
				{"( " + x + " " + op + " 1 )", "( " + x + " " + op + " 1 )", n + 4}, {x + " " + op, "", n + 1}, {"( " + x + " " + op + " 1 ) " + op + " 2", "( " + x + " " + op + " 1 )", n + 4},
			})
		}
		for _, op := range []string{"++", "--"} {
			checkExprs(t, impl.Top(), []exprCase{
				{x + " " + op, "( " + x + " " + op + " )", n + 1}, {op + " " + x, "( " + op + " " + x + " )", n + 1}, {"( " + x + " ) " + op, tree, n + 2}, {op + " ( " + x + " )", "", 1},
				{x + " " + op + " " + op, "( " + x + " " + op + " )", n + 1}, {op + " " + x + " " + op, "( " + op + " " + x + " )", n + 1}, {x + " " + op + " = 1", "( " + x + " " + op + " )", n + 1}, {op + " " + x + " = 1", "( " + op + " " + x + " )", n + 1},
				{"$ " + op + " " + x + " = 1", "( $ ( " + op + " " + x + " ) = 1 )", n + 4}, {"b ^ " + x + " " + op, "( b ^ ( " + x + " " + op + " ) )", n + 3}, {"b ^ " + op + " " + x, "( b ^ ( " + op + " " + x + " ) )", n + 3},
			})
		}
	}
	for _, x := range []string{"1", "\"s\"", "/r/", "&f ( )", "length ( )", "( a )", "( - a )", "( a = b )"} {
		n := len(codeOf(x))
		tree := strings.Replace(strings.Replace(x, "( a )", "a", 1), "/r/", "( /r/ )", 1)
		for _, op := range strings.Fields("= += -= *= /= %= ^= ++ --") {
			checkExprs(t, impl.Top(), []exprCase{{x + " " + op, tree, n}, {x + " " + op + " b", tree, n}})
		}
		if x == "/r/" {
			continue
		}
		checkExprs(t, impl.Top(), []exprCase{{"++ " + x, "", 1}, {"-- " + x, "", 1}, {"$ ++ " + x, "", 2}, {"1 - -- " + x, "", 3}})
	}
}

func TestP7NoSideOfComparisonsAndMatches(t *testing.T) {
	for _, ops := range []string{"< <= == != > >=", "~ !~"} {
		for _, op := range strings.Fields(ops) {
			for _, next := range strings.Fields(ops) {
				both := op + " b ) " + next
				checkExprs(t, impl.Top(), []exprCase{
					{"a " + op + " b " + next + " c", "( a " + op + " b )", 3}, {"( a " + both + " c", "( ( a " + both + " c )", 7}, {"a " + op + " ( b " + next + " c )", "( a " + op + " ( b " + next + " c ) )", 7},
					{"( a " + op + " b " + next + " c )", "", 4}, {"x [ a " + op + " b " + next + " c ]", "", 5}, {"a ? b " + op + " c " + next + " d : e", "", 5}, {"a " + op + " b " + next, "( a " + op + " b )", 3},
					{"a " + op + " b && c " + next + " d", "( ( a " + op + " b ) && ( c " + next + " d ) )", 7}, {"x = a " + op + " b " + next + " c", "( x = ( a " + op + " b ) )", 5}, {"a " + op + " " + next + " c", "", 2},
				})
			}
		}
	}
	checkExprs(t, impl.Top(), []exprCase{{"a < b ~ c > d", "( ( a < b ) ~ ( c > d ) )", 7}, {"a ~ b < c", "( a ~ ( b < c ) )", 5}, {"a ~ b < c ~ d", "( a ~ ( b < c ) )", 5}})
}

// nameRow is a concatenation of this many names.
func nameRow(n int) []impl.Token {
	return slices.Repeat(wordsOf("a"), n)
}

func TestP7FaultsInOrder(t *testing.T) {
	invalid := impl.Pos{Level: 16}
	strange := append(wordsOf("a"), impl.Token{Kind: 99, Text: "b"})
	deep := slices.Repeat(wordsOf("("), 41)
	strangeDeep := append(slices.Clone(deep), strange...)
	for _, x := range []struct {
		name string
		l    []impl.Token
		p    impl.Pos
		want func(l []impl.Token) parseWanted
	}{
		{"an invalid position", wordsOf("a"), invalid, func(l []impl.Token) parseWanted { return faultOf(impl.FtSyntax, 0) }},
		{"and strange tokens", strange, invalid, func(l []impl.Token) parseWanted { return faultOf(impl.FtSyntax, 0) }},
		{"and open brackets", deep, invalid, func(l []impl.Token) parseWanted { return faultOf(impl.FtSyntax, 0) }},
		{"and a large tree", nameRow(300), invalid, func(l []impl.Token) parseWanted { return faultOf(impl.FtSyntax, 0) }},
		{"strange tokens", strange, impl.Top(), func(l []impl.Token) parseWanted { return faultOf(impl.FtLex, 0) }},
		{"and open brackets", strangeDeep, impl.Top(), func(l []impl.Token) parseWanted { return faultOf(impl.FtLex, 0) }},
		{"and a syntax fault before them", append(wordsOf(")"), strange...), impl.Top(), func(l []impl.Token) parseWanted { return faultOf(impl.FtLex, 0) }},
		{"and a large tree", append(nameRow(300), strange...), impl.Top(), func(l []impl.Token) parseWanted { return faultOf(impl.FtLex, 0) }},
		{"open brackets", deep, impl.Top(), func(l []impl.Token) parseWanted { return faultOf(impl.FtDeep, l[40].At) }},
		{"and a syntax fault before them", append(wordsOf(") +"), deep...), impl.Top(), func(l []impl.Token) parseWanted { return faultOf(impl.FtDeep, l[42].At) }},
		{"and a syntax fault behind them", append(slices.Clone(deep), wordsOf("+ )")...), impl.Top(), func(l []impl.Token) parseWanted { return faultOf(impl.FtDeep, l[40].At) }},
		{"and an expression before them", append(wordsOf("a ;"), deep...), impl.Top(), func(l []impl.Token) parseWanted { return faultOf(impl.FtDeep, l[42].At) }},
		{"and a large tree", append(nameRow(300), deep...), impl.Top(), func(l []impl.Token) parseWanted { return faultOf(impl.FtDeep, l[340].At) }},
		{"a syntax fault and a large tree", append(nameRow(300), wordsOf("+")...), impl.Top(), func(l []impl.Token) parseWanted { return faultOf(impl.FtSyntax, l[300].At+1) }},
		{"the same with a token behind it", append(nameRow(300), wordsOf("+ ) a")...), impl.Top(), func(l []impl.Token) parseWanted { return faultOf(impl.FtSyntax, l[301].At) }},
		{"a syntax fault and a deep tree", append(slices.Repeat(wordsOf("!"), 50), wordsOf("a ^ ,")...), impl.Top(), func(l []impl.Token) parseWanted { return faultOf(impl.FtSyntax, l[52].At) }},
		{"a large tree, which is deep too", nameRow(201), impl.Top(), func(l []impl.Token) parseWanted { return faultOf(impl.FtLarge, 0) }},
		{"a large tree with tokens behind it", append(nameRow(201), wordsOf(") )")...), impl.Top(), func(l []impl.Token) parseWanted { return faultOf(impl.FtLarge, 0) }},
		{"a deep tree", nameRow(41), impl.Top(), func(l []impl.Token) parseWanted { return faultOf(impl.FtDeep, 0) }},
		{"a deep tree with tokens behind it", append(nameRow(41), wordsOf(") )")...), impl.Top(), func(l []impl.Token) parseWanted { return faultOf(impl.FtDeep, 0) }},
		{"no tokens", nil, impl.Top(), func(l []impl.Token) parseWanted { return faultOf(impl.FtSyntax, 0) }},
		{"no tokens at an invalid position", nil, impl.Pos{}, func(l []impl.Token) parseWanted { return faultOf(impl.FtSyntax, 0) }},
		{"as many tokens as there may be", nameRow(3000), impl.Top(), func(l []impl.Token) parseWanted { return faultOf(impl.FtLarge, 0) }},
		{"one token more", nameRow(3001), impl.Top(), func(l []impl.Token) parseWanted { return faultOf(impl.FtLex, 0) }},
		{"many signs", slices.Repeat(wordsOf("!"), 3000), impl.Top(), func(l []impl.Token) parseWanted { return faultOf(impl.FtSyntax, l[2999].At+1) }},
		{"a name behind many signs", append(slices.Repeat(wordsOf("$"), 2999), wordsOf("a")...), impl.Top(), func(l []impl.Token) parseWanted { return faultOf(impl.FtLarge, 0) }},
	} {
		l := placed(x.l)
		if !t.Run(x.name, func(t *testing.T) { checkParse(t, l, x.p, x.want(l)) }) {
			t.Logf("of %.100q", textOf(l))
		}
	}
}

func TestP7OffsetsOfFaults(t *testing.T) {
	for _, at := range []int{math.MinInt, -7, 0, 5, math.MaxInt - 1, math.MaxInt} {
		l := wordsOf("abc +")
		l[1].At = at
		checkParse(t, l, impl.Top(), faultOf(impl.FtSyntax, at+1))
		checkParse(t, append(slices.Clone(l), impl.Token{Kind: impl.TkRBrace, Text: "}", At: at}), impl.Top(), faultOf(impl.FtSyntax, at))
		checkParse(t, append(slices.Clone(l), impl.Token{Kind: impl.TkBuiltin, Text: "substr", At: at}), impl.Top(), faultOf(impl.FtSyntax, at+6))
		open := append(slices.Repeat(wordsOf("["), 40), impl.Token{Kind: impl.TkLBrace, Text: "{", At: at})
		checkParse(t, open, impl.Top(), faultOf(impl.FtDeep, at))
		l[1].Text = "+="
		checkParse(t, l, impl.Top(), faultOf(impl.FtLex, 0))
		l[1] = impl.Token{Kind: impl.TkSemi, Text: ";", At: at}
		checkParse(t, l, impl.Top(), parseWanted{nameTree("abc"), 1, impl.Fault{}})
	}
}

func TestP7LargestTrees(t *testing.T) {
	for _, row := range binsWanted() {
		for _, op := range row.ops {
			tree := unaryTree(impl.TkNot, bush(op, 200))
			l := impl.FullTokens(tree)
			checkParse(t, l, impl.Top(), parseWanted{tree, len(l), impl.Fault{}})
			checkParse(t, append(slices.Clone(l), wordsOf("; b")...), impl.Top(), parseWanted{tree, len(l), impl.Fault{}})
			checkParse(t, append(wordsOf("-"), l...), impl.Top(), faultOf(impl.FtLarge, 0))
			checkParse(t, append(wordsOf("( -"), append(l, wordsOf(") + b")...)...), impl.Top(), faultOf(impl.FtLarge, 0))
		}
	}
	// Its nodes are counted before its depth, and brackets leave none.
	for n := 198; n <= 203; n++ {
		want := faultOf(impl.FtDeep, 0)
		if 2*n-1 > 400 {
			want = faultOf(impl.FtLarge, 0)
		}
		checkParse(t, nameRow(n), impl.Top(), want)
		checkParse(t, append(nameRow(n-1), wordsOf("( ( ( a ) ) )")...), impl.Top(), want)
	}
}

func TestP7DeepestTrees(t *testing.T) {
	minus := func(l []impl.Node) []impl.Node { return unaryTree(impl.TkSub, l) }
	a, b := nameTree("a"), nameTree("b")
	for _, x := range []struct {
		before, after string
		make          func(l []impl.Node) []impl.Node
	}{
		{"- ", "", minus}, {"( - ", " )", minus}, {"- ( ", " )", minus}, {"$ ", "", fieldTree},
		{"a ^ ", "", func(l []impl.Node) []impl.Node { return binTree(impl.TkPow, a, l) }},
		{"", " * b", func(l []impl.Node) []impl.Node { return binTree(impl.TkMul, l, b) }},
		{"", " b", func(l []impl.Node) []impl.Node { return binTree(impl.OpCat, l, b) }},
		{"", " in x", func(l []impl.Node) []impl.Node { return inTree("x", l) }},
		{"( b , ", " ) in x", func(l []impl.Node) []impl.Node { return inTree("x", b, l) }},
		{"a += ", "", func(l []impl.Node) []impl.Node { return assignTree(impl.TkAddA, a, l) }},
		{"a ? b : ", "", func(l []impl.Node) []impl.Node { return condTree(a, b, l) }},
		{"a ? ", " : b", func(l []impl.Node) []impl.Node { return condTree(a, l, b) }},
		{"x [ ", " ]", func(l []impl.Node) []impl.Node { return indexTree("x", l) }},
		{"&f ( ", " , b )", func(l []impl.Node) []impl.Node { return callTree("f", l, b) }},
		{"sin ( ", " )", func(l []impl.Node) []impl.Node { return builtinTree("sin", l) }},
	} {
		tree := numTree("1")
		for depth := 1; depth <= maxDepthWanted+3; depth++ {
			l := codeOf(strings.Repeat(x.before, depth-1) + "1" + strings.Repeat(x.after, depth-1))
			want := parseWanted{tree, len(l), impl.Fault{}}
			if i := nestWanted(l); i >= 0 {
				want = faultOf(impl.FtDeep, l[i].At)
			} else if depth > maxDepthWanted {
				want = faultOf(impl.FtDeep, 0)
			}
			checkParse(t, l, impl.Top(), want)
			tree = x.make(tree)
		}
	}
}

func TestP7OpenBrackets(t *testing.T) {
	for _, x := range []struct {
		open, shut string
		each       int // brackets
		most       int // of these, in a tree that is not too deep
	}{
		{"(", ")", 1, 40}, {"( (", ") )", 2, 20}, {"x [", "]", 1, 39}, {"&f (", ")", 1, 39}, {"length (", ")", 1, 39}, {"$ (", ")", 1, 39}, {"( x [", "] )", 2, 20}, {"( &f (", ") )", 2, 20}, {"- ( (", ") )", 2, 20},
		{"( b , (", ") ) in c", 2, 20}, {"&f ( ( sin (", ") ) )", 3, 13}, {"( ( ( (", ") ) ) )", 4, 10},
	} {
		for n := 36 / x.each; n <= 44/x.each; n++ {
			l := codeOf(strings.Repeat(x.open+" ", n) + "a" + strings.Repeat(" "+x.shut, n))
			tree, count, fault := impl.ParseExpr(l, impl.Top())
			want := impl.Fault{}
			nest := nestWanted(l)
			if (nest >= 0) != (n*x.each > 40) || impl.NestOf(l) != nest {
				t.Errorf("NestOf of %d brackets is %d, want %d", n*x.each, impl.NestOf(l), nest)
			}
			if nest >= 0 {
				want = impl.Fault{Kind: impl.FtDeep, At: l[nest].At}
			} else if n > x.most {
				want = impl.Fault{Kind: impl.FtDeep}
			}
			if fault != want || (len(tree) > 0) != (n <= x.most) || len(tree) > 0 && count != len(l) {
				t.Errorf("%d brackets of %q: %d tokens, %v, want %v", n*x.each, x.open, count, fault, want)
			}
		}
	}
	// Brackets that were closed again do not count.
	for n := 1; n <= 50; n++ {
		l := codeOf(strings.Repeat("( ( a ) ) + ", n) + strings.Repeat("( ", 40) + "a" + strings.Repeat(" )", 40))
		if impl.NestOf(l) != -1 {
			t.Errorf("NestOf of %d pairs is %d", n, impl.NestOf(l))
		}
	}
}

func checkNest(t *testing.T, l []impl.Token) {
	t.Helper()
	if got, want := impl.NestOf(l), nestWanted(l); got != want {
		t.Errorf("NestOf of %q is %d, want %d", textOf(l), got, want)
	}
}

func TestP7NestOf(t *testing.T) {
	open := func(n int) string { return strings.Repeat("( [ { ", n/3) + strings.Repeat("( ", n%3) }
	for _, x := range []struct {
		text string
		want int
	}{
		{"", -1}, {"a", -1}, {"( ) ]", -1}, {open(40), -1}, {open(41), 40}, {open(42), 40}, {open(100), 40}, {") " + open(41), 41}, {") ] } ) " + open(40), -1}, {open(39) + "a + b " + open(2), 43},
		{open(40) + ") (", -1}, {open(40) + ") ( (", 42}, {open(40) + "] ( [", 42}, {open(40) + "} ) ( [ {", 44}, {strings.Repeat("( ) ", 60) + open(41), 160}, {open(20) + strings.Repeat("] ", 30) + open(41), 90},
		{open(41) + strings.Repeat(") ", 41), 40}, {strings.Repeat("( [ { } ] ) ", 50), -1}, {strings.Repeat("( ( ) ", 39), -1}, {strings.Repeat("( ( ) ", 40), 118}, {strings.Repeat("( ( ] ", 39) + "{", -1}, {strings.Repeat("( ( ] ", 39) + "{ {", 118},
	} {
		l := wordsOf(x.text)
		if got := impl.NestOf(l); got != x.want {
			t.Errorf("NestOf of %q is %d, want %d", x.text, got, x.want)
		}
		checkNest(t, l)
	}
	if impl.NestOf(nil) != -1 {
		t.Error("NestOf of no tokens")
	}
	for kind := -5; kind <= 80; kind++ {
		opens := kind == impl.TkLParen || kind == impl.TkLBrack || kind == impl.TkLBrace
		for _, text := range []string{"", "(", "a"} {
			l := slices.Repeat([]impl.Token{{Kind: kind, Text: text, At: -1}}, 50)
			if want := map[bool]int{true: 40, false: -1}[opens]; impl.NestOf(l) != want {
				t.Errorf("NestOf of tokens of kind %d is %d", kind, impl.NestOf(l))
			}
		}
	}
}

func TestP7NestOfAnyLists(t *testing.T) {
	brackets := wordsOf("( [ { ) ] } a ^")
	for before := 37; before <= 41; before++ {
		lists := [][]impl.Token{slices.Repeat(wordsOf("["), before)}
		for range 4 {
			var longer [][]impl.Token
			for _, l := range lists {
				for _, x := range brackets {
					longer = append(longer, append(slices.Clone(l), x))
				}
			}
			for _, l := range longer {
				checkNest(t, l)
			}
			lists = longer
		}
	}
	random := rand.New(rand.NewPCG(11, 7))
	deep := 0
	for round := range 3000 {
		var l []impl.Token
		for range random.IntN(250) {
			// The first three words open, the next three shut.
			side := 3 * (random.IntN(8+round%8) / 7 % 2)
			l = append(l, brackets[(side+random.IntN(4))%8])
		}
		checkNest(t, l)
		if nestWanted(l) >= 0 {
			deep++
		}
	}
	if deep < 300 || deep > 2700 {
		t.Error(deep, "deep lists")
	}
}

// sentences makes random derivations.
type sentences struct {
	g       *grammar
	random  *rand.Rand
	samples map[int][]impl.Token
	lowest  []int // the height of the lowest derivation of each symbol
	heights []int // the same with each production
	left    int   // parts that may still be more than those of the lowest derivations
}

func newSentences(g *grammar, random *rand.Rand) *sentences {
	s := &sentences{g: g, random: random, samples: map[int][]impl.Token{}, lowest: make([]int, len(g.of)), heights: make([]int, len(g.productions))}
	for _, x := range sampleTokens() {
		s.samples[x.Kind] = append(s.samples[x.Kind], x)
	}
	s.samples[impl.TkNewline] = listOf("x:\n")
	// Its offset tells it from a length with a list.
	s.samples[lengthAlone] = []impl.Token{{Kind: impl.TkBuiltin, Text: "length", At: lengthAlone}}
	for changed := true; changed; {
		changed = false
		for i, rule := range g.productions {
			height := s.height(rule)
			s.heights[i] = height
			if height > 0 && (s.lowest[rule.symbol] == 0 || height < s.lowest[rule.symbol]) {
				s.lowest[rule.symbol] = height
				changed = true
			}
		}
	}
	return s
}

// height is that of the lowest derivation with this production, or 0 if it is not
// known or there is none.
func (s *sentences) height(rule production) int {
	height := 1
	for _, x := range rule.parts {
		switch {
		case x.symbol < 0 && !slices.Contains(x.tokens[:], true), x.symbol >= 0 && s.lowest[x.symbol] == 0:
			return 0
		case x.symbol >= 0:
			height = max(height, 1+s.lowest[x.symbol])
		}
	}
	return height
}

func (s *sentences) tokenOf(x part) impl.Token {
	for {
		if kind := s.random.IntN(len(x.tokens)); x.tokens[kind] {
			return s.samples[kind][s.random.IntN(len(s.samples[kind]))]
		}
	}
}

// derived returns the tokens and the nodes of a random derivation that begins at a
// token.
func (s *sentences) derived(symbol, from int) ([]impl.Token, derivation) {
	rules := s.g.of[symbol]
	i := rules[s.random.IntN(len(rules))]
	for s.heights[i] == 0 || s.left <= 0 && s.heights[i] > s.lowest[symbol] {
		i = rules[s.random.IntN(len(rules))]
	}
	rule := s.g.productions[i]
	s.left -= len(rule.parts) - 1
	var tokens []impl.Token
	var kids pieces
	for _, x := range rule.parts {
		if x.symbol < 0 {
			token := s.tokenOf(x)
			tokens = append(tokens, token)
			kids.tokens = append(kids.tokens, token)
		} else {
			l, nodes := s.derived(x.symbol, from+len(tokens))
			tokens = append(tokens, l...)
			kids.nodes = append(kids.nodes, nodes...)
		}
	}
	return tokens, kids.made(rule.kind, from, from+len(tokens))
}

// readsLength reports whether no parenthesis follows a length alone.
func readsLength(l []impl.Token) bool {
	for i, x := range l {
		if x.At == lengthAlone && i+1 < len(l) && l[i+1].Kind == impl.TkLParen {
			return false
		}
	}
	return true
}

func TestP7RandomDerivations(t *testing.T) {
	t.Parallel()
	c := newParseCheck()
	for _, p := range validPositions() {
		c.g.startOf(p)
	}
	random := rand.New(rand.NewPCG(11, 1))
	s := newSentences(c.g, random)
	accepted, tokens, compared := 0, 0, 0
	positions := validPositions()
	for round := range 8000 {
		p := positions[random.IntN(len(positions))]
		s.left = round % 50
		l, nodes := s.derived(c.g.startOf(p), 0)
		if !c.lex.okWanted(c.tokens, l) || !readsLength(l) || nestWanted(l) >= 0 {
			continue
		}
		l = placed(l)
		want := sized(nodes[0].tree(), len(l))
		checkParse(t, l, p, want)
		if want.fault == (impl.Fault{}) {
			accepted++
			tokens += len(l)
		}
		if len(l) < 30 && compared < 800 {
			compared++
			if whole := c.want(t, l, p); whole.fault != want.fault || !sameNodes(whole.tree, want.tree) {
				t.Errorf("%q has two derivations at %+v", textOf(l), p)
			}
		}
	}
	if accepted < 6000 || tokens < 10*accepted || compared < 800 {
		t.Error(accepted, "derivations with", tokens, "tokens,", compared, "compared")
	}
}

// TestP7LongestPrefix has expressions with other tokens behind them, which may
// continue them.
func TestP7LongestPrefix(t *testing.T) {
	c := newParseCheck()
	random := rand.New(rand.NewPCG(11, 2))
	m := newNodeMaker(random)
	positions := validPositions()
	ends := codeOf(") ] } ; , : NL #c >> | if print {")
	samples := sampleTokens()
	for round := range 3000 {
		tree := m.tree(1+round%15, 1+round%30, 2+round%10)
		p := positions[random.IntN(len(positions))]
		l := impl.ExprTokens(tree, p)
		end := ends[random.IntN(len(ends))]
		l = append(l, end)
		if end.Kind == impl.TkComment {
			l = append(l, codeOf("NL")...)
		}
		n := len(l) - 1
		for range random.IntN(4) {
			may := followers(samples, l[len(l)-1].Kind)
			l = append(l, may[random.IntN(len(may))])
		}
		l = placed(append(l, wordsOf("(")...))
		if c.lex.okWanted(c.tokens, l) && nestWanted(l) < 0 {
			want := parseWanted{tree, n, impl.Fault{}}
			if end.Kind == impl.TkComment {
				want.count--
			}
			checkParse(t, l, p, want)
		}
	}
}

func TestP7TokensBehindAnExpression(t *testing.T) {
	t.Parallel()
	c := newParseCheck()
	random := rand.New(rand.NewPCG(11, 3))
	m := newNodeMaker(random)
	positions := validPositions()
	samples := sampleTokens()
	for round := range 1500 {
		p := positions[random.IntN(len(positions))]
		l := impl.ExprTokens(m.tree(1+round%15, 1+round%12, 2+round%6), p)
		for range random.IntN(4) {
			may := followers(samples, l[len(l)-1].Kind)
			l = append(l, may[random.IntN(len(may))])
		}
		l = placed(append(l, wordsOf("(")...))
		c.check(t, l[:len(l)-1], p)
		c.check(t, l, p)
		c.check(t, l, positions[random.IntN(len(positions))])
	}
}

// TestP7RandomChanges has the tokens of expressions with some of them changed, moved
// or left out.
func TestP7RandomChanges(t *testing.T) {
	t.Parallel()
	c := newParseCheck()
	random := rand.New(rand.NewPCG(11, 4))
	m := newNodeMaker(random)
	positions := somePositions()
	samples := append(sampleTokens(), impl.Token{}, impl.Token{Kind: impl.TkName, Text: "if"}, impl.Token{Kind: -1, Text: "a"}, impl.Token{Kind: 9, Text: "length"}, impl.Token{Kind: 69, Text: "a"}, impl.Token{Kind: 99, Text: "a"})
	faults := map[int]int{}
	for round := range 6000 {
		l := impl.FullTokens(m.tree(1+round%15, 1+round%15, 2+round%6))
		if round%2 == 0 {
			l = impl.ExprTokens(m.tree(1+round%15, 1+round%15, 2+round%6), impl.Top())
		}
		for range 1 + random.IntN(3) {
			i, k := random.IntN(len(l)), random.IntN(len(l))
			x := samples[random.IntN(len(samples))]
			switch random.IntN(4) {
			case 0:
				l[i] = x
			case 1:
				l = slices.Insert(l, i, x)
			case 2:
				l[i], l[k] = l[k], l[i]
			case 3:
				if l = slices.Delete(l, i, i+1); len(l) == 0 {
					l = wordsOf("+")
				}
			}
		}
		l = placed(l)
		p := impl.Top()
		if round%3 == 0 {
			p = positions[random.IntN(len(positions))]
		}
		want := c.want(t, l, p)
		checkParse(t, l, p, want)
		faults[want.fault.Kind]++
	}
	if faults[impl.FtNone] < 500 || faults[impl.FtLex] < 500 || faults[impl.FtSyntax] < 500 {
		t.Error(faults)
	}
}

func TestP7TokensInAnyOrder(t *testing.T) {
	c := newParseCheck()
	random := rand.New(rand.NewPCG(11, 5))
	positions := somePositions()
	samples := sampleTokens()
	operands, operators := wordsOf("a 1 ( ) $ [ x ] , ++ - !"), wordsOf("+ - * ^ < ~ && || in = ? : , ) ] ++ >")
	for round := range 6000 {
		var l []impl.Token
		for i := range random.IntN(12) {
			switch {
			case round%2 == 0:
				l = append(l, samples[random.IntN(len(samples))])
			case i%2 == 0:
				l = append(l, operands[random.IntN(len(operands))])
			default:
				l = append(l, operators[random.IntN(len(operators))])
			}
		}
		c.check(t, placed(l), impl.Top())
		c.check(t, l, positions[random.IntN(len(positions))])
	}
	for kind := -3; kind <= 110; kind++ {
		for _, text := range []string{"", "a", "(", "1", "\n"} {
			x := impl.Token{Kind: kind, Text: text, At: 7}
			for _, l := range [][]impl.Token{{x}, {x, x}, append(wordsOf("a"), x), append(wordsOf("a +"), x), append([]impl.Token{x}, wordsOf("a")...)} {
				c.check(t, l, impl.Top())
			}
		}
	}
}

// positionTexts has expressions that some positions permit and some do not.
func positionTexts() []string {
	return []string{
		"", "a", "1", "\"s\"", "/r/", "( a )", "x [ a in b > c ]", "&f ( a in b , c > d )", "length", "length ( a > b )", "$ a", "$ ++ a", "$ ( a > b )", "++ a", "-- $ a", "a ++", "$ a --", "- a", "! - a", "+ ++ a",
		"a ^ b", "a ^ - b", "a * b / c", "a * - b", "a + b - c", "a - ++ b", "a b c", "a ( - b )", "a < b", "a > b", "a >= b > c", "a + b > c", "( a > b ) > c", "a ~ b", "a !~ b > c", "/r/ ~ a > b", "a in b", "a in b in c", "( a , b ) in c",
		"( a , b > c ) in d", "( ( a , b ) in c )", "( a in b ) in c", "a > b in c", "- a in b", "! a in b > c", "a && b in c", "a > b && c > d", "a || b && c in d", "( a , b ) in c || d", "- a || b", "a ? b : c", "a in b ? c > d : e in f",
		"a ? b > c : d", "a ? ( b , c ) in d : e", "a = b", "a = b > c", "a = ( b in c ) in d", "$ a = b = c", "$ ++ a = b", "x [ a > b ] += b ? c : d > e", "a = - b", "a = ( b , c ) in d", "a b > c in d && e || f ? g : h = i",
	}
}

// TestP7EachPosition has some texts at all positions, also those that are not valid.
func TestP7EachPosition(t *testing.T) {
	t.Parallel()
	c := newParseCheck()
	for _, text := range positionTexts() {
		l := codeOf(text)
		for _, p := range somePositions() {
			c.check(t, l, p)
		}
	}
}

func TestP7ReadExprOfAnyText(t *testing.T) {
	t.Parallel()
	c := newParseCheck()
	random := rand.New(rand.NewPCG(11, 6))
	m := newNodeMaker(random)
	counts := map[int]int{}
	check := func(s string) {
		l, want := c.lex.want(s)
		var tree []impl.Node
		if want == (impl.Fault{}) {
			result := c.want(t, l, impl.Top())
			tree, want = result.tree, result.fault
			if want == (impl.Fault{}) && result.count < len(l) {
				tree, want = nil, impl.Fault{Kind: impl.FtSyntax, At: l[result.count].At}
			}
		}
		if got, fault := impl.ReadExpr(s); fault != want || !sameNodes(got, tree) {
			t.Errorf("ReadExpr(%q) = %s, %v, want %s, %v", s, nodesShown(got), fault, nodesShown(tree), want)
		}
		counts[want.Kind]++
	}
	bytes := "ab1(),+-*/^!~<>=&|?:$[] \n\"'"
	for _, s := range wordsOver("a1+(/ ", 4) {
		check(s)
	}
	for round := range 1500 {
		s := impl.Spell(impl.ExprTokens(m.tree(1+round%15, 1+round%15, 2+round%6), impl.Top()))
		check(s)
		b := []byte(s)
		b[random.IntN(len(b))] = bytes[random.IntN(len(bytes))]
		check(string(b))
		check(s[:random.IntN(len(s))])
		i := random.IntN(len(s))
		check(s[:i] + m.pick([]string{" ", "\n", "\\\n", "#c\n", "(", ")", "  \t"}) + s[i:])
	}
	if counts[impl.FtNone] < 2000 || counts[impl.FtLex] < 100 || counts[impl.FtSyntax] < 1000 {
		t.Error(counts)
	}
	check(strings.Repeat(" ", 3000))
	check(strings.Repeat(" ", 3001))
	check("a" + strings.Repeat(" ", 2999))
}

func TestP7ArgumentsStayAndResultsAreNew(t *testing.T) {
	for _, text := range []string{"", "a", "a + b * c", "&f ( a , b , x [ c , d ] ) = e", "( a , b , c ) in d ? e : f", "a +", "( a , b", "$ a = - b ^ ++ c", "( ( a ) ) )", "a || NL b && #c NL c", "length length ( a )", strings.Repeat("( ", 41)} {
		mark := impl.Token{Kind: 77, Text: "unused", At: 77}
		long := append(codeOf(text), mark, mark)
		before := slices.Clone(long)
		short := long[:len(long)-2]
		for _, p := range []impl.Pos{impl.Top(), {}, {Level: 15}, {Level: 1, NoIn: true, NoGt: true, NoSign: true}} {
			first, count, fault := impl.ParseExpr(short, p)
			want := cloned(first)
			second, _, _ := impl.ParseExpr(short, p)
			for i, n := range second {
				for k := range n.Kids[:cap(n.Kids)] {
					n.Kids[:cap(n.Kids)][k] = -i - 1
				}
			}
			for i, n := range second {
				for _, kid := range n.Kids[:cap(n.Kids)] {
					if kid != -i-1 {
						t.Errorf("two lists of kids of %q share memory", text)
					}
				}
			}
			third, again, same := impl.ParseExpr(short, p)
			if !sameNodes(first, want) || !sameNodes(third, want) || again != count || same != fault {
				t.Errorf("results of %q differ", text)
			}
		}
		impl.NestOf(short)
		if !slices.Equal(long, before) {
			t.Errorf("the tokens of %q were changed", text)
		}
	}
}

// checkReadBackAt checks that tokens are parsed to a tree at a position, whatever
// their offsets.
func checkReadBackAt(t *testing.T, random *rand.Rand, l []impl.Token, p impl.Pos, tree []impl.Node) bool {
	t.Helper()
	l = slices.Clone(l)
	for i := range l {
		l[i].At = random.IntN(1<<40) - 1<<39
	}
	if i := nestWanted(l); i >= 0 {
		checkParse(t, l, p, faultOf(impl.FtDeep, l[i].At))
		return false
	}
	checkParse(t, l, p, parseWanted{tree, len(l), impl.Fault{}})
	return true
}

func TestP8FullTokensAreParsedToTheSameTree(t *testing.T) {
	t.Parallel()
	random := rand.New(rand.NewPCG(11, 8))
	m := newNodeMaker(random)
	positions := validPositions()
	read := 0
	for round := range 6000 {
		tree := m.tree(1+round%15, 1+round%60, 2+round%39)
		l := impl.FullTokens(tree)
		for _, p := range []impl.Pos{impl.Top(), positions[random.IntN(len(positions))]} {
			if checkReadBackAt(t, random, l, p, tree) {
				read++
			}
		}
	}
	for _, tree := range sampleExpressions() {
		for _, p := range positions {
			checkReadBackAt(t, random, impl.FullTokens(tree), p, tree)
		}
		if got, fault := impl.ReadExpr(impl.Spell(impl.FullTokens(tree))); fault != (impl.Fault{}) || !sameNodes(got, tree) {
			t.Errorf("the text of FullTokens of %s: %s, %v", nodesShown(tree), nodesShown(got), fault)
		}
	}
	if read < 10000 {
		t.Error("only", read, "trees")
	}
}

func TestP8ExprTokensAreParsedToTheSameTree(t *testing.T) {
	t.Parallel()
	random := rand.New(rand.NewPCG(11, 9))
	m := newNodeMaker(random)
	positions := validPositions()
	read := 0
	for round := range 6000 {
		tree := m.tree(1+round%15, 1+round%60, 2+round%39)
		for range 4 {
			p := positions[random.IntN(len(positions))]
			if checkReadBackAt(t, random, impl.ExprTokens(tree, p), p, tree) {
				read++
			}
		}
		if s := impl.Spell(impl.ExprTokens(tree, impl.Top())); len(s) <= maxTextWanted && nestWanted(impl.ExprTokens(tree, impl.Top())) < 0 {
			if got, fault := impl.ReadExpr(s); fault != (impl.Fault{}) || !sameNodes(got, tree) {
				t.Errorf("ReadExpr(%q) = %s, %v", s, nodesShown(got), fault)
			}
		}
	}
	if read < 20000 {
		t.Error("only", read, "trees")
	}
}

func TestP8SmallExpressionsAreParsedToTheSameTree(t *testing.T) {
	t.Parallel()
	random := rand.New(rand.NewPCG(11, 10))
	positions := validPositions()
	count := 0
	for _, sample := range sampleExpressions() {
		for _, tree := range smallExpressions([][]impl.Node{nameTree("x"), sample}) {
			checkReadBackAt(t, random, impl.FullTokens(tree), positions[random.IntN(len(positions))], tree)
			for range 16 {
				p := positions[random.IntN(len(positions))]
				checkReadBackAt(t, random, impl.ExprTokens(tree, p), p, tree)
			}
			count++
		}
	}
	if count < 3000 {
		t.Error("only", count, "expressions")
	}
}

// TestP8TreesWithManyBrackets has trees whose tokens have up to MaxOpen brackets and
// more.
func TestP8TreesWithManyBrackets(t *testing.T) {
	random := rand.New(rand.NewPCG(11, 11))
	for n := 1; n <= 39; n++ {
		deep := 0
		for _, around := range [][]impl.Node{
			{{Kind: impl.EUnary, Op: impl.TkNot}}, {{Kind: impl.EField}}, {{Kind: impl.EIn, Text: "c"}, {Kind: impl.EUnary, Op: impl.TkSub}}, {{Kind: impl.ECall, Text: "f"}}, {{Kind: impl.EIndex, Text: "x"}, {Kind: impl.EField}},
			{{Kind: impl.EBuiltin, Text: "int"}, {Kind: impl.EUnary, Op: impl.TkNot}, {Kind: impl.EField}},
		} {
			tree := nameTree("a")
			for i := range n {
				tree = joined(around[i%len(around)], tree)
			}
			for _, p := range []impl.Pos{impl.Top(), {Level: impl.LvPrimary}} {
				checkReadBackAt(t, random, impl.ExprTokens(tree, p), p, tree)
				if !checkReadBackAt(t, random, impl.FullTokens(tree), p, tree) {
					deep++
				}
			}
		}
		if n < 20 && deep > 0 {
			t.Error(deep, "trees with many brackets at depth", n)
		}
	}
}
