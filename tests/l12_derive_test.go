package tests

import (
	"math"
	"math/rand/v2"
	"slices"
	"strings"
	"testing"
	"time"

	"loop.example/g01543/impl"
)

// The tests of this file check P7 with Derives, in its three parts: what ParseExpr
// returns is derived by its tokens, it accepts all tokens of a derivation and returns
// the same tree, and no tokens derive two trees at one position. What the tokens
// derive is told by the grammar of the tests of chapter 11, which finds all trees.

// maxDerivedWanted is the number of tokens up to which Derives looks at them.
const maxDerivedWanted = 400

// checkDerives checks Derives. Where it is true, ParseExpr has to accept all tokens
// and to return the tree, and where it is false, it must not, unless comments or the
// number of the tokens are the reason.
func checkDerives(t *testing.T, l []impl.Token, x []impl.Node, p impl.Pos, want bool) {
	t.Helper()
	if got := impl.Derives(l, x, p); got != want {
		t.Errorf("Derives of %.300q and %s at %+v is %v", textOf(l), nodesShown(x), p, got)
	}
	if !want {
		tree, count, fault := impl.ParseExpr(l, p)
		if fault == (impl.Fault{}) && count == len(l) && sameNodes(tree, x) && !hasComment(l) && count <= maxDerivedWanted {
			t.Errorf("ParseExpr returns %s for all of %.300q at %+v", nodesShown(x), textOf(l), p)
		}
		return
	}
	checkParse(t, l, p, parseWanted{x, len(l), impl.Fault{}})
	if a, b := impl.Operands(l), len(impl.Yield(x)); a != b {
		t.Errorf("%.300q has %d operands, and Yield of its tree %d", textOf(l), a, b)
	}
}

// hasComment reports whether the grammar of this chapter, where nl stands for newlines
// only, excludes the tokens.
func hasComment(l []impl.Token) bool {
	return slices.ContainsFunc(l, func(x impl.Token) bool { return x.Kind == impl.TkComment })
}

// deriveCheck tells by the grammar what tokens derive.
type deriveCheck struct {
	parse parseCheck
	right tokensCheck
}

func newDeriveCheck() deriveCheck {
	return deriveCheck{newParseCheck(), newTokensCheck()}
}

// onlyTree returns the tree that all tokens of a chart derive, or nothing.
func (c chart) onlyTree(t *testing.T) []impl.Node {
	t.Helper()
	if !c.viable() {
		return nil
	}
	switch trees := c.trees(); len(trees) {
	case 0:
		return nil
	case 1:
		return trees[0][0].tree()
	}
	t.Errorf("%q has several derivations", textOf(c.l))
	return nil
}

// tree returns the tree for which Derives should be true, or nothing.
func (c deriveCheck) tree(t *testing.T, l []impl.Token, p impl.Pos) []impl.Node {
	t.Helper()
	if len(l) > maxDerivedWanted || !posWanted(p) || hasComment(l) || nestWanted(l) >= 0 || !c.parse.lex.okWanted(c.parse.tokens, l) {
		return nil
	}
	chart := newChart(c.parse.g, p)
	for _, x := range l {
		if chart = chart.with(x); !chart.viable() {
			return nil
		}
	}
	if x := chart.onlyTree(t); len(x) > 0 && c.right.exprWanted(x) {
		return x
	}
	return nil
}

// check checks that of some trees exactly the one of the grammar is derived, and that
// it is, be it one of them or not. It returns whether there is one.
func (c deriveCheck) check(t *testing.T, l []impl.Token, p impl.Pos, trees ...[]impl.Node) bool {
	t.Helper()
	derived := c.tree(t, l, p)
	for _, x := range trees {
		if want := len(derived) > 0 && sameNodes(x, derived); impl.Derives(l, x, p) != want {
			checkDerives(t, l, x, p, want)
		}
	}
	if len(derived) == 0 {
		return false
	}
	checkDerives(t, l, derived, p, true)
	return true
}

// readTree returns the tree that ReadExpr returns.
func readTree(t *testing.T, s string) []impl.Node {
	t.Helper()
	x, fault := impl.ReadExpr(s)
	if fault != (impl.Fault{}) {
		t.Fatal(s, fault)
	}
	return x
}

func TestP7DerivesExamples(t *testing.T) {
	for _, x := range []struct {
		tree, text string
		want       bool
	}{
		{"a b+c", "a b+c", true}, {"a b+c", "a (b+c)", true}, {"a b+c", "(a b)+c", false},
		{"(a b)+c", "(a b)+c", true}, {"(a b)+c", "a b+c", false}, {"(a b)+c", "a (b+c)", false},
		{"a&&b", "a && \n b", true}, {"a&&b", "a \n && b", false}, {"a&&b", "a&&b", true}, {"a&&c", "a && \n b", false},
		{"a", "((a))", true}, {"a", "a", true}, {"a", "(a", false}, {"a", "a)", false}, {"a", "b", false}, {"a", "", false}, {"a", "1", false},
		{"a+b", "a+b", true}, {"a+b", "a+c", false}, {"a+b", "b+a", false}, {"a+b", "a-b", false}, {"a+b", "a+b+c", false}, {"a+b", "a+", false}, {"a+b", "+b", false},
		{"a+b", "a+b;", false}, {"a+b", "a+b\n", false}, {"a+b", "\na+b", false}, {"a+b", "(a)+((b))", true}, {"a+b", "{a+b}", false},
		{"f(a) in b", "f(a) in b", true}, {"f(a) in b", "f (a) in b", false}, {"1", "1.", false}, {"\"a\"", "\"a\"", true}, {"\"a\"", "a", false},
	} {
		l, _ := impl.Lex(x.text)
		checkDerives(t, l, readTree(t, x.tree), impl.Top(), x.want)
	}
}

func TestP7DerivesByLevel(t *testing.T) {
	or := readTree(t, "a || b")
	cat := readTree(t, "a b + c")
	for level := -2; level <= 18; level++ {
		p := impl.Pos{Level: level}
		valid := level >= 1 && level <= 15
		checkDerives(t, codeOf("a || b"), or, p, valid && level <= impl.LvOr)
		checkDerives(t, codeOf("( a || b )"), or, p, valid)
		checkDerives(t, codeOf("a b + c"), cat, p, valid && level <= impl.LvCat)
		checkDerives(t, codeOf("a ( b + c )"), cat, p, valid && level <= impl.LvCat)
		checkDerives(t, codeOf("( a b + c )"), cat, p, valid)
	}
}

// splitCase is a text of tokens, the tree that it derives (none if that is empty), and
// the trees of other splits, all in full parentheses.
type splitCase struct {
	text, tree string
	others     []string
}

// splitCases has texts that can be split at more than one place, and the same with
// parentheses that choose a split.
func splitCases() []splitCase {
	l := []splitCase{
		{"a = b = c", "( a = ( b = c ) )", nil}, {"( a = b ) = c", "", []string{"( a = ( b = c ) )"}}, {"a = ( b = c )", "( a = ( b = c ) )", nil},
		{"&f ( a ) ( b )", "( &f ( a ) b )", []string{"( ( f a ) b )", "( f ( a b ) )"}}, {"f ( a ) ( b )", "( ( f a ) b )", []string{"( &f ( a ) b )", "( f ( a b ) )"}},
		{"f ( ( a ) ( b ) )", "( f ( a b ) )", []string{"( ( f a ) b )", "&f ( ( a b ) )"}}, {"&f ( ( a ) ( b ) )", "&f ( ( a b ) )", []string{"( f ( a b ) )"}},
		{"a in b in c", "( ( a in b ) in c )", []string{"( ( a in c ) in b )", "( ( b in a ) in c )"}}, {"( a in b ) in c", "( ( a in b ) in c )", nil}, {"a in ( b in c )", "", []string{"( ( a in b ) in c )"}},
		{"x = a > b", "( x = ( a > b ) )", nil}, {"( x = a ) > b", "( ( x = a ) > b )", []string{"( x = ( a > b ) )"}},
		{"a < b > c", "", []string{"( ( a < b ) > c )", "( a < ( b > c ) )"}}, {"a ~ b ~ c", "", []string{"( ( a ~ b ) ~ c )", "( a ~ ( b ~ c ) )"}},
	}
	for _, x := range []struct {
		text, tree  string // the text with its own split
		other, full string // the same tokens, with parentheses that choose the other one
	}{
		{"a b + c", "( a ( b + c ) )", "( a b ) + c", "( ( a b ) + c )"},
		{"a - b - c", "( ( a - b ) - c )", "a - ( b - c )", "( a - ( b - c ) )"},
		{"a b c", "( ( a b ) c )", "a ( b c )", "( a ( b c ) )"},
		{"a ^ b ^ c", "( a ^ ( b ^ c ) )", "( a ^ b ) ^ c", "( ( a ^ b ) ^ c )"},
		{"a ? b : c ? d : e", "( a ? b : ( c ? d : e ) )", "( a ? b : c ) ? d : e", "( ( a ? b : c ) ? d : e )"},
		{"a ? b ? c : d : e", "( a ? ( b ? c : d ) : e )", "( a ? b : c ) ? d : e", "( ( a ? b : c ) ? d : e )"},
		{"a - b", "( a - b )", "a ( - b )", "( a ( - b ) )"},
		{"a + b + c", "( ( a + b ) + c )", "a ( + b ) + c", "( a ( ( + b ) + c ) )"},
		{"$ a ++", "( $ a ++ )", "$ ( a ++ )", "( $ ( a ++ ) )"},
		{"$ ++ a", "( $ ( ++ a ) )", "++ $ a", "( ++ $ a )"},
		{"$ ++ a ++", "( $ ( ++ a ) ++ )", "$ ( ++ a )", "( $ ( ++ a ) )"},
		{"- a ^ b", "( - ( a ^ b ) )", "( - a ) ^ b", "( ( - a ) ^ b )"},
		{"! x ~ y", "( ( ! x ) ~ y )", "! ( x ~ y )", "( ! ( x ~ y ) )"},
		{"- a * b", "( ( - a ) * b )", "- ( a * b )", "( - ( a * b ) )"},
		{"a || b && c", "( a || ( b && c ) )", "( a || b ) && c", "( ( a || b ) && c )"},
		{"a && b in c", "( a && ( b in c ) )", "( a && b ) in c", "( ( a && b ) in c )"},
		{"a ~ b in c", "( ( a ~ b ) in c )", "a ~ ( b in c )", "( a ~ ( b in c ) )"},
		{"a = b ? c : d", "( a = ( b ? c : d ) )", "( a = b ) ? c : d", "( ( a = b ) ? c : d )"},
		{"a ++ b", "( ( a ++ ) b )", "a ( ++ b )", "( a ( ++ b ) )"},
		{"a b ++", "( a ( b ++ ) )", "a ++ b", "( ( a ++ ) b )"},
		{"a $ b c", "( ( a ( $ b ) ) c )", "a $ ( b c )", "( a ( $ ( b c ) ) )"},
		{"a b in c", "( ( a b ) in c )", "a ( b in c )", "( a ( b in c ) )"},
		{"a * b ^ c", "( a * ( b ^ c ) )", "( a * b ) ^ c", "( ( a * b ) ^ c )"},
		{"a < b c", "( a < ( b c ) )", "( a < b ) c", "( ( a < b ) c )"},
	} {
		l = append(l, splitCase{x.text, x.tree, []string{x.full}}, splitCase{x.other, x.full, []string{x.tree}})
	}
	return l
}

func TestP7DerivesOneOfTwoSplits(t *testing.T) {
	t.Parallel()
	c := newDeriveCheck()
	var trees [][]impl.Node
	for _, x := range splitCases() {
		for _, tree := range append(slices.Clone(x.others), x.tree) {
			if tree != "" {
				trees = append(trees, treeOf(t, tree))
			}
		}
	}
	for _, x := range splitCases() {
		for _, text := range []string{x.text, "( " + x.text + " )", "( ( " + x.text + " ) )"} {
			l := codeOf(text)
			if x.tree != "" {
				checkDerives(t, l, treeOf(t, x.tree), impl.Top(), true)
			}
			for _, other := range x.others {
				checkDerives(t, l, treeOf(t, other), impl.Top(), false)
			}
			c.check(t, l, impl.Top(), trees...)
		}
	}
}

// TestP7DerivesOperatorsBesideEachOther has each operator beside each other one, and
// the parentheses that choose a split.
func TestP7DerivesOperatorsBesideEachOther(t *testing.T) {
	a, b, c := nameTree("a"), nameTree("b"), nameTree("c")
	for _, x := range opPairs() {
		first, second := spelledOp(x.op), spelledOp(x.next)
		left, right := binTree(x.next, binTree(x.op, a, b), c), binTree(x.op, a, binTree(x.next, b, c))
		bare := codeOf("a " + first + " b " + second + " c")
		checkDerives(t, bare, left, impl.Top(), x.all && sameNodes(treeOf(t, x.tree), left))
		checkDerives(t, bare, right, impl.Top(), x.all && sameNodes(treeOf(t, x.tree), right))
		onLeft, onRight := codeOf("( a "+first+" b ) "+second+" c"), codeOf("a "+first+" ( b "+second+" c )")
		checkDerives(t, onLeft, left, impl.Top(), true)
		checkDerives(t, onLeft, right, impl.Top(), false)
		checkDerives(t, onRight, left, impl.Top(), false)
		checkDerives(t, onRight, right, impl.Top(), true)
	}
}

// TestP7DerivesAtEachPosition has some texts, and the trees of all of them, at all
// positions, also those that are not valid.
func TestP7DerivesAtEachPosition(t *testing.T) {
	t.Parallel()
	c := newDeriveCheck()
	var trees [][]impl.Node
	for _, text := range positionTexts() {
		if x := c.tree(t, codeOf(text), impl.Top()); len(x) > 0 {
			trees = append(trees, x)
		}
	}
	derived := 0
	for _, text := range positionTexts() {
		for _, p := range somePositions() {
			for _, l := range [][]impl.Token{codeOf(text), codeOf("( " + text + " )")} {
				if c.check(t, l, p, trees...) {
					derived++
				}
			}
		}
	}
	if len(trees) < 50 || derived < 8000 {
		t.Error(len(trees), "trees,", derived, "derivations")
	}
}

// TestP7DerivesEachKidAtEachPosition has expressions that restrictions and levels
// exclude as each kid of others, with and without parentheses.
func TestP7DerivesEachKidAtEachPosition(t *testing.T) {
	t.Parallel()
	c := newDeriveCheck()
	positions := slices.Concat(positionsAt(impl.LvAssign), positionsAt(impl.LvCat), positionsAt(impl.LvField))
	derived, none := 0, 0
	for _, whole := range []string{
		"$ @", "- @", "++ @", "@ ++", "@ z", "z @", "@ - z", "z - @", "@ * z", "z * @", "@ ^ z", "z ^ @", "@ < z", "z < @", "@ ~ z", "z ~ @", "@ && z", "z && @", "@ || z", "z || @",
		"@ in z", "( @ , z ) in z", "( z , @ ) in z", "@ = z", "z = @", "$ @ = z", "@ ? z : z", "z ? @ : z", "z ? z : @", "z [ @ ]", "z [ z , @ ]", "&f ( @ )", "length ( @ , z )",
	} {
		for _, kid := range []string{"a in b", "( a , b ) in c", "a > b", "- a", "++ a", "a --", "/r/", "a = b", "a ? b : c", "a b", "a || b", "$ a", "length", "! a - b", "/r/ ~ a"} {
			bare, inside := codeOf(strings.ReplaceAll(whole, "@", kid)), codeOf(strings.ReplaceAll(whole, "@", "( "+kid+" )"))
			x := c.tree(t, inside, impl.Top())
			for _, p := range positions {
				for _, l := range [][]impl.Token{bare, inside} {
					if c.check(t, l, p, x) {
						derived++
					} else {
						none++
					}
				}
			}
		}
	}
	if derived < 8000 || none < 8000 {
		t.Error(derived, "derivations,", none, "others")
	}
}

// TestP7DerivesAtAnotherPosition has the tokens of a tree at one position, with as few
// parentheses as it permits, at another one.
func TestP7DerivesAtAnotherPosition(t *testing.T) {
	t.Parallel()
	c := newDeriveCheck()
	random := rand.New(rand.NewPCG(12, 8))
	m := newNodeMaker(random)
	positions := validPositions()
	derived, none := 0, 0
	for round := range 4000 {
		x := m.tree(1+round%15, 1+round%10, 2+round%5)
		l := impl.ExprTokens(x, positions[random.IntN(len(positions))])
		if round%2 == 0 {
			l = impl.ExprTokens(x, impl.Top())
		}
		p := positions[random.IntN(len(positions))]
		if round%4 < 2 {
			p = positions[random.IntN(24)] // of one of the first three levels
		}
		if c.check(t, l, p, x) {
			derived++
		} else {
			none++
		}
	}
	if derived < 1000 || none < 500 {
		t.Error(derived, "derivations,", none, "others")
	}
}

func TestP7DerivesPositionExamples(t *testing.T) {
	dollar := impl.Pos{Level: impl.LvField, Dollar: true}
	for _, x := range []struct {
		p          impl.Pos
		text, tree string
		want       bool
	}{
		{impl.Pos{Level: 1, NoGt: true}, "a > b", "( a > b )", false}, {impl.Pos{Level: 1, NoGt: true}, "( a > b )", "( a > b )", true}, {impl.Pos{Level: 1, NoIn: true}, "a > b", "( a > b )", true},
		{impl.Pos{Level: 1, NoGt: true}, "a < b", "( a < b )", true}, {impl.Pos{Level: 1, NoGt: true}, "a >= b", "( a >= b )", true}, {impl.Pos{Level: 1, NoGt: true}, "x = a > b", "( x = ( a > b ) )", false},
		{impl.Pos{Level: 1, NoGt: true}, "x = ( a > b )", "( x = ( a > b ) )", true}, {impl.Pos{Level: 1, NoGt: true}, "a || b > c", "( a || ( b > c ) )", false}, {impl.Pos{Level: 1, NoGt: true}, "&f ( a > b )", "&f ( ( a > b ) )", true},
		{impl.Pos{Level: 1, NoGt: true}, "x [ a > b ]", "x [ ( a > b ) ]", true}, {impl.Pos{Level: 1, NoGt: true}, "( a , b > c ) in d", "( ( a , ( b > c ) ) in d )", true}, {impl.Pos{Level: 1, NoGt: true}, "a ? b > c : d", "( a ? ( b > c ) : d )", false},
		{impl.Pos{Level: 1, NoIn: true}, "a in b", "( a in b )", false}, {impl.Pos{Level: 1, NoIn: true}, "( a in b )", "( a in b )", true}, {impl.Pos{Level: 1, NoIn: true}, "( a in b ) in c", "( ( a in b ) in c )", false},
		{impl.Pos{Level: 1, NoIn: true}, "( a , b ) in c", "( ( a , b ) in c )", false}, {impl.Pos{Level: 1, NoIn: true}, "( ( a , b ) in c )", "( ( a , b ) in c )", true}, {impl.Pos{Level: 1, NoIn: true}, "! a in b", "( ( ! a ) in b )", false},
		{impl.Pos{Level: 1, NoIn: true}, "x [ a in b ]", "x [ ( a in b ) ]", true}, {impl.Pos{Level: 1, NoIn: true}, "$ ( a in b )", "( $ ( a in b ) )", true}, {impl.Pos{Level: 1, NoIn: true}, "a ? ( b in c ) : d", "( a ? ( b in c ) : d )", true},
		{impl.Pos{Level: 1, NoIn: true, NoGt: true}, "( a in b ) ? ( c > d ) : e", "( ( a in b ) ? ( c > d ) : e )", true}, {impl.Pos{Level: 1, NoIn: true, NoGt: true}, "( a in b ) ? c > d : e", "( ( a in b ) ? ( c > d ) : e )", false},
		{impl.Pos{Level: 1, NoSign: true}, "- a", "( - a )", false}, {impl.Pos{Level: 1, NoSign: true}, "( - a )", "( - a )", true}, {impl.Pos{Level: 1, NoSign: true}, "- a - b", "( ( - a ) - b )", false},
		{impl.Pos{Level: 1, NoSign: true}, "( - a ) - b", "( ( - a ) - b )", true}, {impl.Pos{Level: 1, NoSign: true}, "a - - b", "( a - ( - b ) )", true}, {impl.Pos{Level: 1, NoSign: true}, "/r/", "( /r/ )", false},
		{impl.Pos{Level: 1, NoSign: true}, "( /r/ ) ~ /r/", "( ( /r/ ) ~ ( /r/ ) )", true}, {impl.Pos{Level: 1, NoSign: true}, "++ a", "( ++ a )", false}, {impl.Pos{Level: 1, NoSign: true}, "a ++", "( a ++ )", true},
		{impl.Pos{Level: 1, NoSign: true}, "$ ++ a", "( $ ( ++ a ) )", true}, {impl.Pos{Level: 1, NoSign: true}, "( - a , b ) in c", "( ( ( - a ) , b ) in c )", true}, {impl.Pos{Level: 1, NoSign: true}, "a ? - b : ! c", "( a ? ( - b ) : ( ! c ) )", true},
		{dollar, "++ a", "( ++ a )", true}, {dollar, "-- x [ a ]", "( -- x [ a ] )", true}, {dollar, "a ++", "( a ++ )", false}, {dollar, "$ a", "( $ a )", true}, {dollar, "- a", "( - a )", false}, {dollar, "( - a )", "( - a )", true}, {dollar, "++ a ^ b", "( ( ++ a ) ^ b )", false},
		{impl.Pos{Level: impl.LvField}, "++ a", "( ++ a )", false}, {impl.Pos{Level: impl.LvField}, "( ++ a )", "( ++ a )", true}, {impl.Pos{Level: impl.LvField, Dollar: true, NoSign: true}, "++ a", "( ++ a )", false},
		{impl.Pos{Level: impl.LvIncr, Dollar: true}, "( a )", "a", false}, {impl.Pos{}, "( a )", "a", false}, {impl.Pos{Level: 16}, "( a )", "a", false}, {impl.Pos{Level: 15}, "( a )", "a", true},
	} {
		checkDerives(t, codeOf(x.text), treeOf(t, x.tree), x.p, x.want)
	}
}

// checkWithLines puts newlines and comments into each gap of the tokens of a tree: nl
// is behind the commas of lists, || and &&.
func checkWithLines(t *testing.T, l []impl.Token, x []impl.Node, p impl.Pos) {
	t.Helper()
	checkDerives(t, l, x, p, true)
	for i := range len(l) + 1 {
		nl := i > 0 && slices.Contains([]string{",", "||", "&&"}, l[i-1].Text)
		for _, lines := range []string{"NL", "NL NL", "NL NL NL NL NL"} {
			checkDerives(t, slices.Insert(slices.Clone(l), i, codeOf(lines)...), x, p, nl)
		}
		for _, lines := range []string{"#c", "#c NL", "NL #c NL", "NL #c"} {
			checkDerives(t, slices.Insert(slices.Clone(l), i, codeOf(lines)...), x, p, false)
		}
	}
}

func TestP7DerivesNewlinesAndComments(t *testing.T) {
	c := newDeriveCheck()
	texts := append(positionTexts(), "&f ( a , b , c )", "sin ( a , b )", "x [ a , b ]", "( a , b , c ) in d", "a || b && c || d", "( a || b ) && &f ( c , d && e )", "length ( a , b )", "$ x [ a , b ] = c || d")
	for _, text := range texts {
		l := codeOf(text)
		if x := c.tree(t, l, impl.Top()); len(x) > 0 {
			checkWithLines(t, l, x, impl.Top())
			checkWithLines(t, enclosed(l), x, impl.Pos{Level: impl.LvPrimary})
		}
	}
	for _, l := range [][]impl.Token{codeOf("NL"), codeOf("#c"), codeOf("#c NL"), nil} {
		checkDerives(t, l, nameTree("a"), impl.Top(), false)
	}
	// Each nl stands for any number of them.
	l := codeOf("&f ( a , NL b , NL NL c || NL NL NL d && NL e )")
	checkDerives(t, l, treeOf(t, "&f ( a , b , ( c || ( d && e ) ) )"), impl.Top(), true)
}

func TestP7DerivesLists(t *testing.T) {
	c := newDeriveCheck()
	for _, x := range []struct {
		before, after string
		least         int
		make          func(kids ...[]impl.Node) []impl.Node
	}{
		{"&f (", ")", 0, func(kids ...[]impl.Node) []impl.Node { return callTree("f", kids...) }},
		{"sin (", ")", 0, func(kids ...[]impl.Node) []impl.Node { return builtinTree("sin", kids...) }},
		{"length (", ")", 0, func(kids ...[]impl.Node) []impl.Node { return builtinTree("length", kids...) }},
		{"x [", "]", 1, func(kids ...[]impl.Node) []impl.Node { return indexTree("x", kids...) }},
		{"(", ") in b", 1, func(kids ...[]impl.Node) []impl.Node { return inTree("b", kids...) }},
	} {
		var trees [][]impl.Node
		names := strings.Fields("e f g h i j k l")
		for n := range len(names) + 1 {
			var kids [][]impl.Node
			for _, name := range names[:n] {
				kids = append(kids, nameTree(name))
			}
			trees = append(trees, x.make(kids...))
		}
		for n := range trees {
			list := strings.Join(names[:n], " , ")
			for k, tree := range trees {
				checkDerives(t, codeOf(x.before+" "+list+" "+x.after), tree, impl.Top(), k == n && n >= x.least && n <= maxArgsWanted)
			}
			for _, text := range []string{" , " + list + " ", " " + list + " , ", " ( " + list + " ) ", " " + strings.ReplaceAll(list, ",", "") + " ", " " + strings.Replace(list, ",", ", ,", 1) + " "} {
				c.check(t, codeOf(x.before+text+x.after), impl.Top(), trees...)
			}
		}
	}
	for _, x := range []struct {
		text, tree string
		want       bool
	}{
		{"( a , b ) in c", "( ( a , b ) in c )", true}, {"( ( a , b ) ) in c", "( ( a , b ) in c )", false}, {"( a , b ) in ( c )", "( ( a , b ) in c )", false}, {"( ( a ) , ( ( b ) ) ) in c", "( ( a , b ) in c )", true},
		{"( a ) in c", "( a in c )", true}, {"( ( a ) ) in c", "( a in c )", true}, {"( a in c )", "( a in c )", true}, {"a in c", "( a in c )", true}, {"a , b in c", "( ( a , b ) in c )", false}, {"[ a , b ] in c", "( ( a , b ) in c )", false},
		{"( a , b ) in c in d", "( ( ( a , b ) in c ) in d )", true}, {"( ( a , b ) in c ) in d", "( ( ( a , b ) in c ) in d )", true}, {"( ( a , b ) in c , d ) in e", "( ( ( ( a , b ) in c ) , d ) in e )", true},
		{"x [ ( a , b ) in c ]", "x [ ( ( a , b ) in c ) ]", true}, {"x [ a , b ]", "x [ ( ( a , b ) in c ) ]", false}, {"x ( a )", "x [ a ]", false}, {"x [ a ]", "( x a )", false}, {"&f ( a = b , c ? d : e )", "&f ( ( a = b ) , ( c ? d : e ) )", true},
		{"&f ( a )", "&g ( a )", false}, {"f ( a )", "&f ( a )", false}, {"&f ( a )", "( f a )", false}, {"sin ( a )", "cos ( a )", false}, {"sin a", "sin ( a )", false}, {"x [ a ] [ b ]", "x [ a , b ]", false}, {"( x ) [ a ]", "x [ a ]", false},
	} {
		checkDerives(t, codeOf(x.text), treeOf(t, x.tree), impl.Top(), x.want)
	}
}

func TestP7DerivesLength(t *testing.T) {
	for _, x := range []struct {
		text, tree string
		want       bool
	}{
		{"length", "length ( )", true}, {"length ( )", "length ( )", true}, {"( length )", "length ( )", true}, {"( length ( ) )", "length ( )", true}, {"length ( ( ) )", "length ( )", false}, {"length (", "length ( )", false},
		{"length ( a )", "length ( a )", true}, {"length ( a )", "( length ( ) a )", false}, {"length ( ) ( a )", "( length ( ) a )", true}, {"( length ) ( a )", "( length ( ) a )", true}, {"length a", "( length ( ) a )", true},
		{"length a", "length ( a )", false}, {"length $ a", "( length ( ) ( $ a ) )", true}, {"length ( a ) b", "( length ( ) ( a b ) )", false}, {"length ( a ) b", "( length ( a ) b )", true}, {"( length ) ( a ) b", "( ( length ( ) a ) b )", true},
		{"length length", "( length ( ) length ( ) )", true}, {"length length ( )", "( length ( ) length ( ) )", true}, {"length ( ) length", "( length ( ) length ( ) )", true}, {"length ( length )", "( length ( ) length ( ) )", false}, {"length ( length )", "length ( length ( ) )", true},
		{"length / 2", "( length ( ) / 2 )", true}, {"length ( ) / 2", "( length ( ) / 2 )", true}, {"$ length ++", "( $ length ( ) ++ )", true}, {"length in a", "( length ( ) in a )", true}, {"a length", "( a length ( ) )", true},
		{"sin", "sin ( )", false}, {"sin ( )", "sin ( )", true}, {"( sin )", "sin ( )", false}, {"sin", "length ( )", false}, {"length", "sin ( )", false}, {"a sin", "( a sin ( ) )", false}, {"&length ( )", "length ( )", false},
		{"a && length NL", "( a && length ( ) )", false}, {"&f ( length , NL ( a ) )", "&f ( length ( ) , a )", true}, {"x [ length ]", "x [ length ( ) ]", true}, {"&f ( length )", "&f ( length ( ) )", true},
	} {
		checkDerives(t, codeOf(x.text), treeOf(t, x.tree), impl.Top(), x.want)
	}
	for name := range builtinSet() {
		checkDerives(t, codeOf(name), builtinTree(name), impl.Top(), name == "length")
		checkDerives(t, codeOf(name+" ( )"), builtinTree(name), impl.Top(), true)
		checkDerives(t, codeOf(name+" a"), builtinTree(name, nameTree("a")), impl.Top(), false)
	}
}

func TestP7DerivesTargets(t *testing.T) {
	for _, target := range []string{"a", "a [ 1 ]", "a [ ( 1 ) , b ]", "$ a", "$ 1", "$ $ a", "$ ++ a", "$ ( a )", "$ ( - a )", "$ x [ 1 ]"} {
		lvalue := readTree(t, target)
		value := numTree("1")
		for _, op := range []int{impl.TkAssign, impl.TkAddA, impl.TkSubA, impl.TkMulA, impl.TkDivA, impl.TkModA, impl.TkPowA} {
			s, x := spelledOp(op), assignTree(op, lvalue, value)
			checkDerives(t, codeOf(target+" "+s+" 1"), x, impl.Top(), true)
			checkDerives(t, codeOf(target+" "+s+" ( 1 )"), x, impl.Top(), true)
			checkDerives(t, codeOf("( "+target+" "+s+" 1 )"), x, impl.Top(), true)
			checkDerives(t, codeOf("( "+target+" ) "+s+" 1"), x, impl.Top(), false)
			checkDerives(t, codeOf("( ( "+target+" ) ) "+s+" 1"), x, impl.Top(), false)
			checkDerives(t, codeOf(target+" "+s+" 1"), x, impl.Pos{Level: impl.LvCond}, false)
			checkDerives(t, codeOf("b = "+target+" "+s+" 1"), assignTree(impl.TkAssign, nameTree("b"), x), impl.Top(), true)
			checkDerives(t, codeOf(target+" "+s+" 1"), assignTree(impl.TkAssign+impl.TkAddA-op, lvalue, value), impl.Top(), false)
		}
		for _, op := range []int{impl.TkIncr, impl.TkDecr} {
			s, pre, post := spelledOp(op), preTree(op, lvalue), postTree(op, lvalue)
			checkDerives(t, codeOf(s+" "+target), pre, impl.Top(), true)
			checkDerives(t, codeOf(target+" "+s), post, impl.Top(), true)
			checkDerives(t, codeOf(s+" "+target), post, impl.Top(), false)
			checkDerives(t, codeOf(target+" "+s), pre, impl.Top(), false)
			checkDerives(t, codeOf(s+" ( "+target+" )"), pre, impl.Top(), false)
			checkDerives(t, codeOf("( "+target+" ) "+s), post, impl.Top(), false)
			checkDerives(t, codeOf("( "+s+" "+target+" )"), pre, impl.Pos{Level: impl.LvPrimary}, true)
			checkDerives(t, codeOf("( "+target+" "+s+" )"), post, impl.Pos{Level: impl.LvPrimary}, true)
			checkDerives(t, codeOf("$ "+s+" "+target), fieldTree(pre), impl.Top(), true)
			checkDerives(t, codeOf("$ "+target+" "+s), fieldTree(post), impl.Top(), false)
			checkDerives(t, codeOf(s+" "+target), preTree(impl.TkIncr+impl.TkDecr-op, lvalue), impl.Top(), false)
		}
	}
}

// byOperands has trees, each once, by the number of tokens that are names and literals.
func byOperands(trees [][]impl.Node) map[int][][]impl.Node {
	m := map[int][][]impl.Node{}
	for _, x := range trees {
		n := len(orderedTexts(x, len(x)-1))
		if !slices.ContainsFunc(m[n], func(known []impl.Node) bool { return sameNodes(known, x) }) {
			m[n] = append(m[n], x)
		}
	}
	return m
}

// deriveWalk compares each list of tokens up to a length with all trees that have as
// many names and literals.
type deriveWalk struct {
	t        *testing.T
	p        impl.Pos
	alphabet [][]impl.Token
	trees    map[int][][]impl.Node
	derived  int
	others   int
}

// compare checks that exactly the tree of a chart is derived by the tokens.
func (w *deriveWalk) compare(l []impl.Token, only []impl.Node) {
	count := 0
	for _, x := range w.trees[len(textTokens(l))] {
		if !impl.Derives(l, x, w.p) {
			w.others++
			continue
		}
		count++
		checkDerives(w.t, l, x, w.p, sameNodes(x, only))
	}
	if count > 1 {
		w.t.Errorf("%q derives %d trees at %+v", textOf(l), count, w.p)
	}
	if len(only) > 0 {
		checkDerives(w.t, l, only, w.p, true)
		w.derived++
	}
}

// visit goes on from some tokens. No tokens behind a chart that is not viable make an
// expression of it, so it is kept as it is.
func (w *deriveWalk) visit(c chart, l []impl.Token, more int) {
	previous := 0
	if len(l) > 0 {
		previous = l[len(l)-1].Kind
	}
	for _, group := range w.alphabet {
		if len(followers(group[:1], previous)) == 0 {
			continue
		}
		next := c
		for _, x := range group {
			if next.viable() {
				next = next.with(x)
			}
		}
		longer := append(slices.Clone(l), group...)
		w.compare(longer, next.onlyTree(w.t))
		if more > 1 {
			w.visit(next, longer, more-1)
		}
	}
}

// walked compares all lists over the words of a text at a position.
func walked(t *testing.T, g *grammar, p impl.Pos, text string, trees map[int][][]impl.Node, most int) *deriveWalk {
	t.Helper()
	w := &deriveWalk{t: t, p: p, alphabet: alphabetOf(text), trees: trees}
	w.compare(nil, nil)
	w.visit(newChart(g, p), nil, most)
	return w
}

// rootsOf has a root for each sort of expression with kids.
func rootsOf() []impl.Node {
	return []impl.Node{
		{Kind: impl.EField}, {Kind: impl.EPre, Op: impl.TkIncr}, {Kind: impl.EPost, Op: impl.TkIncr}, {Kind: impl.EUnary, Op: impl.TkSub},
		{Kind: impl.EBin, Op: impl.OpCat}, {Kind: impl.EBin, Op: impl.TkSub}, {Kind: impl.EBin, Op: impl.TkPow}, {Kind: impl.EBin, Op: impl.TkGt}, {Kind: impl.EBin, Op: impl.TkOr},
		{Kind: impl.EIn, Text: "a"}, {Kind: impl.EAssign, Op: impl.TkAssign}, {Kind: impl.ECond}, {Kind: impl.EIndex, Text: "a"}, {Kind: impl.ECall, Text: "f"}, {Kind: impl.EBuiltin, Text: "length"},
	}
}

// TestP7DerivesAllSmallTreesAtEachPosition has all trees of up to two levels against
// all lists of up to three tokens.
func TestP7DerivesAllSmallTreesAtEachPosition(t *testing.T) {
	t.Parallel()
	g := newGrammar()
	a, ere := nameTree("a"), ereTree("/r/")
	trees := append(treesOver(rootsOf(), [][]impl.Node{a}), treesOver(rootsOf(), [][]impl.Node{ere})...)
	known := byOperands(append(trees, a, ere))
	derived, others := 0, 0
	for _, p := range validPositions() {
		w := walked(t, g, p, "a /r/ ( ) in > || - ^ ++ $ = length", known, 3)
		derived += w.derived
		others += w.others
	}
	if len(trees) < 45 || derived < 3000 || others < 1000000 {
		t.Error(len(trees), "trees,", derived, "derivations,", others, "others")
	}
}

// TestP7DerivesAllSmallTrees has trees of up to three levels against longer lists.
func TestP7DerivesAllSmallTrees(t *testing.T) {
	t.Parallel()
	g := newGrammar()
	a := nameTree("a")
	two := treesOver(rootsOf(), [][]impl.Node{a})
	strict := impl.Pos{Level: 1, NoIn: true, NoGt: true, NoSign: true}
	all := byOperands(append(two, a))
	derived, others := 0, 0
	for _, p := range []impl.Pos{impl.Top(), strict, {Level: impl.LvCat, NoGt: true}, {Level: impl.LvField, Dollar: true}} {
		w := walked(t, g, p, "a &f ( ) [ ] , in > || NL - ^ ++ $ = ? : length", all, 4)
		derived += w.derived
		others += w.others
	}
	for _, x := range []struct {
		roots []int // of rootsOf
		text  string
		most  int
	}{
		{[]int{0, 1, 2, 4}, "a ( ) ++ $", 6}, {[]int{3, 4, 5, 6}, "a ( ) - ^", 6}, {[]int{7, 8, 9, 10}, "a ( ) > || in =", 5}, {[]int{4, 9, 13, 14}, "a ( ) , in length", 6}, {[]int{5, 10, 11}, "a - = ? :", 6},
	} {
		var roots []impl.Node
		for _, i := range x.roots {
			roots = append(roots, rootsOf()[i])
		}
		kids := append(treesOver(roots, [][]impl.Node{a}), a)
		w := walked(t, g, impl.Top(), x.text, byOperands(append(treesOver(roots, kids), a)), x.most)
		derived += w.derived
		others += w.others
	}
	if derived < 2500 || others < 1000000 {
		t.Error(derived, "derivations,", others, "others")
	}
}

// TestP7DerivesRandomDerivations has the trees and the tokens of random derivations.
func TestP7DerivesRandomDerivations(t *testing.T) {
	t.Parallel()
	c := newDeriveCheck()
	for _, p := range validPositions() {
		c.parse.g.startOf(p)
	}
	random := rand.New(rand.NewPCG(12, 1))
	s := newSentences(c.parse.g, random)
	positions := validPositions()
	derived := 0
	var last []impl.Node
	for round := range 12000 {
		p := positions[random.IntN(len(positions))]
		s.left = round % 60
		l, nodes := s.derived(c.parse.g.startOf(p), 0)
		if !readsLength(l) {
			continue
		}
		x := nodes[0].tree()
		want := len(l) <= maxDerivedWanted && !hasComment(l) && nestWanted(l) < 0 && c.parse.lex.okWanted(c.parse.tokens, l) && c.right.exprWanted(x)
		checkDerives(t, l, x, p, want)
		checkDerives(t, l, last, p, want && sameNodes(last, x))
		last = x
		if want {
			derived++
		}
	}
	if derived < 8000 {
		t.Error("only", derived, "derivations")
	}
}

// looseTokens writes the tokens of trees with more parentheses and newlines than there
// must be, and length without its parentheses.
type looseTokens struct {
	c      tokensCheck
	random *rand.Rand
	pairs  int // at most so many more around an expression
}

func (w looseTokens) of(x []impl.Node, p impl.Pos) []impl.Token {
	w.c.more = func() int { return max(0, w.random.IntN(w.pairs+4)-3) }
	l := w.c.at(x, len(x)-1, p, w.random.IntN(4) == 0)
	var loose []impl.Token
	for i := 0; i < len(l); i++ {
		loose = append(loose, l[i])
		switch {
		case slices.Contains([]string{",", "||", "&&"}, l[i].Text):
			loose = append(loose, repeated(codeOf("NL"), max(0, w.random.IntN(5)-2))...)
		case l[i].Text == "length" && l[i].Kind == impl.TkBuiltin && l[i+2].Kind == impl.TkRParen && (i+3 == len(l) || l[i+3].Kind != impl.TkLParen) && w.random.IntN(2) == 0:
			i += 2
		}
	}
	return loose
}

// TestP7DerivesRandomTrees has random trees at random positions.
func TestP7DerivesRandomTrees(t *testing.T) {
	t.Parallel()
	random := rand.New(rand.NewPCG(12, 2))
	m, c := newNodeMaker(random), newTokensCheck()
	positions := validPositions()
	derived, tokens := 0, 0
	for round := range 6000 {
		w := looseTokens{c, random, round % 6}
		x := m.tree(1+round%15, 1+round%80, 2+round%39)
		p := positions[random.IntN(len(positions))]
		for _, l := range [][]impl.Token{impl.ExprTokens(x, p), impl.FullTokens(x), w.of(x, p)} {
			want := len(l) <= maxDerivedWanted && nestWanted(l) < 0
			checkDerives(t, l, x, p, want)
			if want {
				derived++
				tokens += len(l)
			}
		}
	}
	if derived < 15000 || tokens < 20*derived {
		t.Error(derived, "derivations of", tokens, "tokens")
	}
}

// changedTokens has the tokens with one of them changed, removed, added, and exchanged
// with its neighbour.
func changedTokens(random *rand.Rand, samples, l []impl.Token) [][]impl.Token {
	sample := func() impl.Token { return samples[random.IntN(len(samples))] }
	i := random.IntN(len(l))
	other := slices.Clone(l)
	other[i] = sample()
	swapped := slices.Clone(l)
	k := min(i+1, len(l)-1)
	swapped[i], swapped[k] = swapped[k], swapped[i]
	return [][]impl.Token{
		other, slices.Delete(slices.Clone(l), i, i+1), slices.Insert(slices.Clone(l), i, sample()), append(slices.Clone(l), sample()), swapped,
		slices.Insert(slices.Clone(l), i, l[random.IntN(len(l))]),
	}
}

// TestP7DerivesChangedTokens has the tokens of trees with one change, which may be a
// derivation of the same tree, of another one or of none.
func TestP7DerivesChangedTokens(t *testing.T) {
	t.Parallel()
	c := newDeriveCheck()
	random := rand.New(rand.NewPCG(12, 3))
	m := newNodeMaker(random)
	positions := validPositions()
	samples := sampleTokens()
	same, another, none := 0, 0, 0
	for round := range 1500 {
		x := m.tree(1+round%15, 1+round%12, 2+round%6)
		p := positions[random.IntN(len(positions))]
		w := looseTokens{c.right, random, round % 4}
		l := w.of(x, p)
		for _, changed := range changedTokens(random, samples, l) {
			switch {
			case !c.check(t, changed, p, x):
				none++
			case impl.Derives(changed, x, p):
				same++
			default:
				another++
			}
		}
	}
	if same < 200 || another < 500 || none < 3000 {
		t.Error(same, another, none)
	}
}

// changedNode returns a node that is valid with the same kids, which may be the same
// one.
func (m *nodeMaker) changedNode(n impl.Node) impl.Node {
	changed, _ := m.rootOf(n.Kind, false)
	switch m.random.IntN(3) {
	case 0:
		n.Op = changed.Op
	case 1:
		n.Text = changed.Text
	default:
		kinds := m.c.kinds['X']
		changed, _ = m.rootOf(kinds[m.random.IntN(len(kinds))], false)
		n.Kind, n.Op, n.Text = changed.Kind, changed.Op, changed.Text
	}
	return n
}

// TestP7DerivesChangedTrees has trees with one field of one node changed, most of them
// valid still: the tokens derive one tree only.
func TestP7DerivesChangedTrees(t *testing.T) {
	t.Parallel()
	random := rand.New(rand.NewPCG(12, 4))
	m, c := newNodeMaker(random), newTokensCheck()
	positions := validPositions()
	valid := 0
	for round := range 4000 {
		x := m.tree(1+round%15, 1+round%30, 2+round%10)
		p := positions[random.IntN(len(positions))]
		w := looseTokens{c, random, round % 4}
		l := w.of(x, p)
		if len(l) > maxDerivedWanted || nestWanted(l) >= 0 {
			continue
		}
		for k := range 6 {
			changed := cloned(x)
			i := random.IntN(len(x))
			if k == 0 {
				changeNode(random, &changed[i])
			} else {
				changed[i] = m.changedNode(changed[i])
			}
			checkDerives(t, l, changed, p, sameNodes(changed, x))
			if impl.ExprOk(changed) && !sameNodes(changed, x) {
				valid++
			}
		}
	}
	if valid < 5000 {
		t.Error("only", valid, "valid trees that are others")
	}
}

// TestP7WhatIsParsedIsDerived has tokens behind an expression, and tokens in any order:
// those that ParseExpr takes derive the tree that it returns.
func TestP7WhatIsParsedIsDerived(t *testing.T) {
	t.Parallel()
	random := rand.New(rand.NewPCG(12, 5))
	m, c := newNodeMaker(random), newTokensCheck()
	positions := validPositions()
	samples := sampleTokens()
	parsed, comments, shorter := 0, 0, 0
	for round := range 20000 {
		p := positions[random.IntN(len(positions))]
		var l []impl.Token
		if round%2 == 0 {
			w := looseTokens{c, random, round % 3}
			l = w.of(m.tree(1+round%15, 1+round%20, 2+round%8), impl.Top())
		}
		for range random.IntN(6) {
			previous := 0
			if len(l) > 0 {
				previous = l[len(l)-1].Kind
			}
			may := followers(samples, previous)
			l = append(l, may[random.IntN(len(may))])
		}
		x, count, fault := impl.ParseExpr(l, p)
		if fault != (impl.Fault{}) {
			continue
		}
		taken := l[:count]
		if count > maxDerivedWanted || hasComment(taken) {
			comments++
			checkDerives(t, taken, x, p, false)
			continue
		}
		checkDerives(t, taken, x, p, true)
		parsed++
		if count < len(l) {
			shorter++
			checkDerives(t, l, x, p, false)
		}
	}
	if parsed < 4000 || shorter < 2000 {
		t.Error(parsed, comments, shorter)
	}
}

// TestP7DerivesTreesOfEachOther has the tokens of some expressions against the trees of
// all of them.
func TestP7DerivesTreesOfEachOther(t *testing.T) {
	t.Parallel()
	samples := sampleExpressions()
	for _, p := range []impl.Pos{impl.Top(), {Level: impl.LvPrimary}, {Level: impl.LvField, Dollar: true}, {Level: 1, NoIn: true, NoGt: true, NoSign: true}} {
		for i, x := range samples {
			for k, other := range samples {
				checkDerives(t, impl.ExprTokens(x, p), other, p, i == k)
				checkDerives(t, impl.FullTokens(x), other, p, i == k)
			}
		}
	}
}

// fieldRow is a concatenation of fields of fields with so many nodes, from 366 on, that
// has fewer tokens than nodes.
func fieldRow(nodes int) []impl.Node {
	x := nested(nameTree("x"), impl.Node{Kind: impl.EField}, 26)
	part := x
	for range 12 {
		x = binTree(impl.OpCat, x, part)
	}
	return binTree(impl.OpCat, x, nested(nameTree("x"), impl.Node{Kind: impl.EField}, nodes-len(x)-2))
}

// TestP7DerivesNoInvalidTree has tokens that look like the trees, as far as these have
// any.
func TestP7DerivesNoInvalidTree(t *testing.T) {
	c := newTokensCheck()
	a, one := nameTree("a"), numTree("1")
	seven := slices.Repeat([][]impl.Node{a}, 7)
	for _, x := range []struct {
		text string
		tree []impl.Node
	}{
		{"++ a", unaryTree(impl.TkIncr, a)}, {"a = a", binTree(impl.TkAssign, a, a)}, {"a || a", assignTree(impl.TkOr, a, a)}, {"1 = a", assignTree(impl.TkAssign, one, a)}, {"++ 1", preTree(impl.TkIncr, one)}, {"1 ++", postTree(impl.TkIncr, one)},
		{"a ! a", binTree(impl.TkNot, a, a)}, {"- a", preTree(impl.TkSub, a)}, {"a , a", binTree(impl.TkComma, a, a)}, {"a a", binTree(0, a, a)}, {"a", []impl.Node{{Kind: impl.EName, Text: "a", Op: 1}}}, {"a", []impl.Node{{Kind: impl.EName, Text: "a", Other: "b"}}},
		{"a", []impl.Node{{Kind: impl.EName, Text: "a", Kids: []int{0}}}}, {"x [ ]", indexTree("x")}, {"( ) in a", inTree("a")}, {"a in a", []impl.Node{{Kind: impl.EName, Text: "a"}, {Kind: impl.EName, Text: "a"}, {Kind: impl.EIn, Text: "a", Kids: []int{1}}}},
		{"&f ( a , a , a , a , a , a , a )", callTree("f", seven...)}, {"sin ( a , a , a , a , a , a , a )", builtinTree("sin", seven...)}, {"x [ a , a , a , a , a , a , a ]", indexTree("x", seven...)}, {"( a , a , a , a , a , a , a ) in a", inTree("a", seven...)},
		{"a ( )", binTree(impl.OpCat, a, single(impl.ENone, ""))}, {"a", append(nameTree("a"), nameTree("a")...)}, {"a", nil}, {"", nil}, {"", []impl.Node{{}}}, {"next", single(impl.SNext, "")}, {"", single(impl.ENone, "")},
		{"- a", []impl.Node{{Kind: impl.EName, Text: "a"}, {Kind: impl.EUnary, Op: impl.TkSub, Kids: []int{1}}}}, {"- a", []impl.Node{{Kind: impl.EUnary, Op: impl.TkSub, Kids: []int{1}}, {Kind: impl.EName, Text: "a"}}},
		{"a + a", []impl.Node{{Kind: impl.EName, Text: "a"}, {Kind: impl.EBin, Op: impl.TkAdd, Kids: []int{0, 0}}}}, {"a - 1", []impl.Node{a[0], one[0], {Kind: impl.EBin, Op: impl.TkSub, Kids: []int{1, 0}}}}, {"a - 1", []impl.Node{one[0], a[0], {Kind: impl.EBin, Op: impl.TkSub, Kids: []int{1, 0}}}},
		{"$ a", []impl.Node{{Kind: impl.EName, Text: "a"}, {Kind: impl.EField, Kids: []int{-1}}}}, {"$ a", []impl.Node{{Kind: impl.EName, Text: "a"}, {Kind: impl.EField, Kids: []int{math.MaxInt}}}}, {"$", single(impl.EField, "")}, {"- a", joined(impl.Node{Kind: impl.EUnary, Op: impl.TkSub}, a, a)},
	} {
		for _, l := range [][]impl.Token{codeOf(x.text), enclosed(codeOf(x.text)), codeOf("a"), nil} {
			checkDerives(t, l, x.tree, impl.Top(), false)
		}
	}
	for _, x := range noExpressions() {
		for _, text := range []string{"", "a", "x", "x = 1", "( x )", "- x", "x + 1", "++ x"} {
			for _, p := range []impl.Pos{impl.Top(), {Level: impl.LvPrimary}, {}} {
				checkDerives(t, codeOf(text), x, p, false)
			}
		}
	}
	// Too deep, and too large, by one node.
	for depth := maxDepthWanted - 1; depth <= maxDepthWanted+1; depth++ {
		x := nested(nameTree("x"), impl.Node{Kind: impl.EUnary, Op: impl.TkSub}, depth-1)
		checkDerives(t, c.at(x, len(x)-1, impl.Top(), false), x, impl.Top(), depth <= maxDepthWanted)
	}
	for nodes := 399; nodes <= 401; nodes++ {
		x := fieldRow(nodes)
		checkDerives(t, c.at(x, len(x)-1, impl.Top(), false), x, impl.Top(), nodes <= 400)
	}
}

// TestP7DerivesNothingByInvalidTokens has tokens that TokensOk excludes, between valid
// ones that derive the tree without them or with others in their place.
func TestP7DerivesNothingByInvalidTokens(t *testing.T) {
	c := newDeriveCheck()
	strange := []impl.Token{
		{}, {Kind: impl.TkName}, {Kind: impl.TkName, Text: "if"}, {Kind: impl.TkName, Text: "sin"}, {Kind: impl.TkNum, Text: "a"}, {Kind: impl.TkBuiltin, Text: "a"}, {Kind: impl.TkFunc, Text: "a"}, {Kind: impl.TkStr, Text: "\"a"}, {Kind: impl.TkEre, Text: "//"},
		{Kind: impl.TkAdd}, {Kind: impl.TkAdd, Text: "-"}, {Kind: impl.TkSub, Text: "+"}, {Kind: impl.TkLParen, Text: ")"}, {Kind: impl.TkRParen, Text: "("}, {Kind: impl.TkNewline}, {Kind: impl.TkNewline, Text: "\n\n"}, {Kind: impl.OpCat}, {Kind: impl.OpCat, Text: " "},
		{Kind: 0, Text: "a"}, {Kind: 9, Text: "a"}, {Kind: 69, Text: "a"}, {Kind: -1, Text: "a"}, {Kind: 1<<32 + impl.TkName, Text: "a"}, {Kind: math.MinInt, Text: "a"}, {Kind: math.MaxInt, Text: "+"}, {Kind: impl.TkComma, Text: ";"}, {Kind: impl.TkEre, Text: "/a/"}, {Kind: impl.TkDiv, Text: "/"},
	}
	trees := [][]impl.Node{nameTree("a"), readTree(t, "a+b"), readTree(t, "a-b"), readTree(t, "a b"), readTree(t, "a / b"), readTree(t, "a || b"), readTree(t, "f(a,b)"), readTree(t, "a(b)"), {}, nil}
	for _, text := range []string{"", "a", "a + b", "a b", "a || b", "&f ( a , b )", "( a )", "a ( b )"} {
		l := codeOf(text)
		for i := range len(l) + 1 {
			for _, x := range strange {
				c.check(t, slices.Insert(slices.Clone(l), i, x), impl.Top(), trees...)
				if i < len(l) {
					changed := slices.Clone(l)
					changed[i] = x
					c.check(t, changed, impl.Top(), trees...)
				}
			}
		}
	}
}

func TestP7DerivesWithManyBrackets(t *testing.T) {
	for _, x := range []struct {
		open, shut string
		make       func(x []impl.Node) []impl.Node
	}{
		{"(", ")", func(x []impl.Node) []impl.Node { return x }},
		{"( -", ")", func(x []impl.Node) []impl.Node { return unaryTree(impl.TkSub, x) }},
		{"x [", "]", func(x []impl.Node) []impl.Node { return indexTree("x", x) }},
		{"&f (", ")", func(x []impl.Node) []impl.Node { return callTree("f", x) }},
	} {
		tree := nameTree("a")
		for n := 1; n <= 42; n++ {
			tree = x.make(tree)
			l := codeOf(strings.Repeat(x.open+" ", n) + "a" + strings.Repeat(" "+x.shut, n))
			checkDerives(t, l, tree, impl.Top(), n <= maxOpenWanted && depthWanted(tree, len(tree)-1) <= maxDepthWanted)
		}
	}
	// One bracket more around and beside the greatest number of them.
	tree := nested(nameTree("a"), impl.Node{Kind: impl.EIndex, Text: "x"}, 39)
	l := impl.ExprTokens(tree, impl.Top())
	checkDerives(t, l, tree, impl.Top(), true)
	checkDerives(t, enclosed(l), tree, impl.Top(), true)
	checkDerives(t, enclosed(enclosed(l)), tree, impl.Top(), false)
	pairs := codeOf(strings.Repeat("( ( a ) ) + ", 30) + strings.Repeat("( ", 40) + "a" + strings.Repeat(" )", 40))
	checkDerives(t, pairs, readTree(t, strings.Repeat("a+", 30)+"a"), impl.Top(), true)
}

// TestP7DerivesUpTo400Tokens has lists of about as many tokens as there may be.
func TestP7DerivesUpTo400Tokens(t *testing.T) {
	a := nameTree("a")
	or := binTree(impl.TkOr, a, a)
	full := bush(impl.TkAdd, 100)
	for n := maxDerivedWanted - 3; n <= maxDerivedWanted+3; n++ {
		lines := repeated(codeOf("NL"), n-3)
		checkDerives(t, slices.Concat(codeOf("a ||"), lines, codeOf("a")), or, impl.Top(), n <= maxDerivedWanted)
		checkDerives(t, slices.Concat(codeOf("a"), repeated(codeOf("- a"), n)[:n-1]), a, impl.Top(), false)
		call := slices.Concat(codeOf("&f ( a ,"), repeated(codeOf("NL"), n-6), codeOf("a )"))
		checkDerives(t, call, callTree("f", a, a), impl.Top(), n <= maxDerivedWanted)
		// FullTokens of the bush are 397 tokens.
		l, x := impl.FullTokens(full), full
		for len(l)+1 < n {
			l = enclosed(l)
		}
		if len(l) < n {
			l, x = append(codeOf("-"), l...), unaryTree(impl.TkSub, full)
		}
		if len(l) != n {
			t.Error(len(l), "tokens, want", n)
		}
		checkDerives(t, l, x, impl.Top(), n <= maxDerivedWanted)
	}
	for _, n := range []int{500, maxTokensWanted, maxTokensWanted + 1, 100000} {
		checkDerives(t, slices.Concat(codeOf("a ||"), repeated(codeOf("NL"), n-3), codeOf("a")), or, impl.Top(), false)
	}
}

// derivesInTime calls Derives, which must return within seconds.
func derivesInTime(t *testing.T, l []impl.Token, x []impl.Node, p impl.Pos) bool {
	t.Helper()
	result := make(chan bool, 1)
	go func() { result <- impl.Derives(l, x, p) }()
	select {
	case got := <-result:
		return got
	case <-time.After(10 * time.Second):
		t.Fatalf("Derives of %.100q and %s takes too long", textOf(l), nodesShown(x))
	}
	return false
}

// comb is a tree with this many names, each level of which has one more of them beside
// the rest, on the left or on the right.
func comb(op int, names []string, left bool) []impl.Node {
	x := nameTree(names[0])
	for _, name := range names[1:] {
		if left {
			x = binTree(op, x, nameTree(name))
		} else {
			x = binTree(op, nameTree(name), x)
		}
	}
	return x
}

// TestP7DerivesInAShortTime has tokens that can be split at many places, and
// parentheses that may belong to many nodes.
func TestP7DerivesInAShortTime(t *testing.T) {
	t.Parallel()
	check := func(l []impl.Token, x []impl.Node, want bool) {
		t.Helper()
		if got := derivesInTime(t, l, x, impl.Top()); got != want {
			t.Errorf("Derives of %.300q and %s is %v", textOf(l), nodesShown(x), got)
		}
	}
	names := slices.Repeat([]string{"a"}, 40)
	for _, op := range []int{impl.OpCat, impl.TkAdd, impl.TkOr, impl.TkPow} {
		row := bush(op, 200)
		l := impl.ExprTokens(row, impl.Top())
		check(l, row, len(l) <= maxDerivedWanted)
		check(slices.Repeat(wordsOf("x"), 200), row, false)
		check(slices.Repeat(wordsOf("x"), 400), row, false)
		for _, left := range []bool{true, false} {
			tree := comb(op, names, left)
			few, full := impl.ExprTokens(tree, impl.Top()), impl.FullTokens(tree)
			check(few, tree, true)
			check(full, tree, true)
			check(enclosed(full), tree, true)
			check(nameRow(200), tree, false)
			for _, other := range [][]string{append(slices.Clone(names[1:]), "b"), append([]string{"b"}, names[1:]...), names[1:]} {
				check(full, comb(op, other, left), false)
				check(few, comb(op, other, left), false)
			}
			for i := range 39 {
				check(slices.Delete(slices.Clone(full), i, i+1), tree, false)
				check(slices.Insert(slices.Clone(full), len(full)-i, codeOf(")")...), tree, false)
			}
		}
	}
	for n := 1; n <= 40; n++ {
		open, shut := strings.Repeat("( ", n), strings.Repeat(" )", n)
		check(codeOf(open+"a"+shut), nameTree("a"), true)
		check(codeOf(open+"a"+shut), nameTree("b"), false)
		check(codeOf(open+"a + b"+shut), readTree(t, "a+b"), true)
		check(codeOf(open+"a"+shut+" + b"), readTree(t, "a+b"), true)
		check(codeOf(open+"a + b"+shut), readTree(t, "a+b+c"), false)
		check(codeOf(open+"a + b"+shut+" )"), readTree(t, "a+b"), false)
	}
}

func checkOperands(t *testing.T, l []impl.Token) {
	t.Helper()
	want := 0
	for _, x := range l {
		if slices.Contains([]int{3, 4, 5, 6, 7, 8}, x.Kind) {
			want++
		}
	}
	if got := impl.Operands(l); got != want {
		t.Errorf("Operands of %.300q is %d, want %d", textOf(l), got, want)
	}
}

func TestP7Operands(t *testing.T) {
	for _, x := range []struct {
		text string
		want int
	}{
		{"", 0}, {"a", 1}, {"a b + c", 3}, {"&f ( a ) in b", 3}, {"( ( ) )", 0}, {"1 \"s\" /r/ a &f sin", 6}, {"length", 1}, {"a NL #c NL b", 2}, {"if else in print BEGIN", 0}, {"$ ++ - , ; { }", 0}, {"a a a a", 4},
	} {
		if got := impl.Operands(codeOf(x.text)); got != x.want {
			t.Errorf("Operands of %q is %d, want %d", x.text, got, x.want)
		}
	}
	if impl.Operands(nil) != 0 || impl.Operands([]impl.Token{{}}) != 0 {
		t.Error("Operands of no tokens")
	}
	kinds := append(nodeKindsAround(), 1<<32+impl.TkName, 256+impl.TkNum, -impl.TkName)
	for _, kind := range kinds {
		for _, text := range []string{"", "a", "1", "("} {
			x := impl.Token{Kind: kind, Text: text, At: -3}
			for _, l := range [][]impl.Token{{x}, {x, x, x}, {{Kind: impl.TkName, Text: "a"}, x}, {x, {Kind: impl.TkLParen, Text: "("}}} {
				checkOperands(t, l)
			}
		}
	}
	random := rand.New(rand.NewPCG(12, 6))
	for round := range 500 {
		var l []impl.Token
		for range round {
			l = append(l, impl.Token{Kind: kinds[random.IntN(len(kinds))], Text: "a", At: round})
		}
		checkOperands(t, l)
	}
	checkOperands(t, repeated(codeOf("a + /r/"), 100000))
}

func checkYield(t *testing.T, x []impl.Node) {
	t.Helper()
	want := orderedTexts(x, len(x)-1)
	if got := impl.Yield(x); !slices.Equal(got, want) {
		t.Errorf("Yield of %s is %s, want %s", nodesShown(x), shown(got), shown(want))
	}
	if got := impl.Yield(x); !slices.Equal(got, textTokens(impl.ExprTokens(x, impl.Top()))) {
		t.Errorf("Yield of %s is %s", nodesShown(x), shown(got))
	}
}

func TestP7Yield(t *testing.T) {
	for _, x := range []struct{ tree, want string }{
		{"f(a) in b", "&f a b"}, {"a", "a"}, {"((a))", "a"}, {"a b + c", "a b c"}, {"(a, 1) in b", "a 1 b"}, {"x[\"s\", y[/r/]]", "x \"s\" y /r/"}, {"length", "length"}, {"length() length(a)", "length length a"}, {"$a++ ^ -b", "a b"}, {"$a = -b ^ 2", "a b 2"}, {"a ? b : c = d", ""},
		{"a ? b : c", "a b c"}, {"f(g(), h(1))", "&f &g &h 1"}, {"substr(a, 1, 2)", "substr a 1 2"}, {"a in b in c", "a b c"},
	} {
		tree, _ := impl.ReadExpr(x.tree)
		if got := impl.Yield(tree); !slices.Equal(got, wordsOf(x.want)) {
			t.Errorf("Yield of %q is %s, want %s", x.tree, shown(got), x.want)
		}
	}
	for _, x := range sampleExpressions() {
		checkYield(t, x)
	}
	random := rand.New(rand.NewPCG(12, 7))
	m := newNodeMaker(random)
	c := newTokensCheck()
	none := 0
	for round := range 3000 {
		x := m.tree(1+round%15, 1+round%60, 2+round%30)
		checkYield(t, x)
		changeNode(random, &x[random.IntN(len(x))])
		if c.exprWanted(x) {
			checkYield(t, x)
		} else if none++; len(impl.Yield(x)) != 0 {
			t.Errorf("Yield of %s, which is not valid", nodesShown(x))
		}
	}
	if none < 1000 {
		t.Error("only", none, "invalid trees")
	}
}

func TestP7YieldOfNoExpressions(t *testing.T) {
	c := newRightCheck()
	for _, x := range noExpressions() {
		if got := impl.Yield(x); len(got) != 0 {
			t.Errorf("Yield of %s is %s", nodesShown(x), shown(got))
		}
	}
	for _, kind := range nodeKindsAround() {
		x := smallest(c, kind)
		if got := impl.Yield(x); len(got) != 0 && (kind < impl.EName || kind > impl.EAssign) {
			t.Errorf("Yield of %s is %s", nodesShown(x), shown(got))
		}
	}
	for n := 199; n <= 201; n++ {
		if got := impl.Yield(bush(impl.OpCat, n)); (len(got) == n) != (n <= 200) || len(got) != 0 && n > 200 {
			t.Errorf("Yield of %d names has %d tokens", n, len(got))
		}
	}
}

// TestP7DerivesArgumentsStay also checks that results are the same each time and share
// no memory.
func TestP7DerivesArgumentsStay(t *testing.T) {
	mark := impl.Token{Kind: 77, Text: "unused", At: 77}
	for _, x := range append(sampleExpressions(), noExpressions()...) {
		short, unchanged := spare(x)
		l := append(impl.ExprTokens(x, impl.Top()), mark, mark)
		before := slices.Clone(l)
		tokens := l[:len(l)-2]
		for _, p := range []impl.Pos{impl.Top(), {Level: impl.LvPrimary}, {}} {
			if a, b := impl.Derives(tokens, short, p), impl.Derives(tokens, short, p); a != b {
				t.Errorf("Derives of %s is %v, and then %v", nodesShown(x), a, b)
			}
		}
		first := impl.Yield(short)
		want := slices.Clone(first)
		second := impl.Yield(short)
		for i := range second[:cap(second)] {
			second[:cap(second)][i] = mark
		}
		if third := impl.Yield(short); impl.Operands(tokens) != len(want) || !slices.Equal(first, want) || !slices.Equal(third, want) {
			t.Errorf("Yield of %s is %s, then %s", nodesShown(x), shown(want), shown(third))
		}
		if !unchanged() || !slices.Equal(l, before) {
			t.Errorf("the arguments %s were changed", nodesShown(x))
		}
	}
}
