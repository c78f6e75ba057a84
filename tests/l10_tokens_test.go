package tests

import (
	"errors"
	"fmt"
	"math"
	"math/rand/v2"
	"slices"
	"strings"
	"sync"
	"testing"

	"loop.example/g01543/impl"
)

// The tests here belong to promise 8, as far as chapter 10 goes: ExprTokens and
// FullTokens are what the document says, and FullTokens still tell the tree. Those
// of promise 6 check its last part: what a position forbids occurs in ExprTokens
// only inside brackets.

func nameTree(text string) []impl.Node { return single(impl.EName, text) }

func numTree(text string) []impl.Node { return single(impl.ENum, text) }

func ereTree(text string) []impl.Node { return single(impl.EEre, text) }

func fieldTree(a []impl.Node) []impl.Node { return joined(impl.Node{Kind: impl.EField}, a) }

func unaryTree(op int, a []impl.Node) []impl.Node {
	return joined(impl.Node{Kind: impl.EUnary, Op: op}, a)
}

func preTree(op int, a []impl.Node) []impl.Node {
	return joined(impl.Node{Kind: impl.EPre, Op: op}, a)
}

func postTree(op int, a []impl.Node) []impl.Node {
	return joined(impl.Node{Kind: impl.EPost, Op: op}, a)
}

func binTree(op int, a, b []impl.Node) []impl.Node {
	return joined(impl.Node{Kind: impl.EBin, Op: op}, a, b)
}

func assignTree(op int, a, b []impl.Node) []impl.Node {
	return joined(impl.Node{Kind: impl.EAssign, Op: op}, a, b)
}

func condTree(a, b, c []impl.Node) []impl.Node {
	return joined(impl.Node{Kind: impl.ECond}, a, b, c)
}

func inTree(text string, kids ...[]impl.Node) []impl.Node {
	return joined(impl.Node{Kind: impl.EIn, Text: text}, kids...)
}

func indexTree(text string, kids ...[]impl.Node) []impl.Node {
	return joined(impl.Node{Kind: impl.EIndex, Text: text}, kids...)
}

func callTree(text string, kids ...[]impl.Node) []impl.Node {
	return joined(impl.Node{Kind: impl.ECall, Text: text}, kids...)
}

func builtinTree(text string, kids ...[]impl.Node) []impl.Node {
	return joined(impl.Node{Kind: impl.EBuiltin, Text: text}, kids...)
}

// wordKinds has the kind of each word that is no literal and no name.
func wordKinds() map[string]int {
	m := opTable()
	for s, kind := range keywordKinds() {
		m[s] = kind
	}
	for s := range builtinSet() {
		m[s] = impl.TkBuiltin
	}
	return m
}

// knownWords is wordKinds, made only once for the many calls of wordsOf.
var knownWords = sync.OnceValue(wordKinds)

// wordsOf makes the tokens of words between blanks, where &f is the name of a called
// function.
func wordsOf(text string) []impl.Token {
	kinds := knownWords()
	var l []impl.Token
	for _, word := range strings.Fields(text) {
		kind := kinds[word]
		switch first := word[0]; {
		case kind != 0:
		case first >= '0' && first <= '9' || first == '.':
			kind = impl.TkNum
		case first == '"':
			kind = impl.TkStr
		case first == '/':
			kind = impl.TkEre
		case first == '&':
			kind, word = impl.TkFunc, word[1:]
		default:
			kind = impl.TkName
		}
		l = append(l, impl.Token{Kind: kind, Text: word})
	}
	return l
}

// textOf writes tokens as wordsOf reads them.
func textOf(l []impl.Token) string {
	var words []string
	for _, x := range l {
		word := x.Text
		if x.Kind == impl.TkFunc {
			word = "&" + word
		}
		words = append(words, word)
	}
	return strings.Join(words, " ")
}

// piece is a part of an expression's tokens: the Text of the node as a token of this
// kind, the word as one, or, if the kind is 0, what the word says.
type piece struct {
	word string
	kind int
	text bool
}

// piecesWanted has the tokens of each kind of expression as the document says them.
// Words in capitals are the Text; op is the operator; target, first,
// second and third are kids, and list has all of them. The second line of EIn is for
// several kids.
func piecesWanted() map[int][]piece {
	m := map[int][]piece{}
	kinds := wordKinds()
	texts := map[string]int{"NUM": 3, "STR": 4, "ERE": 5, "NAME": 6, "FUNC": 7, "BUILTIN": 8}
	for kind, words := range map[int]string{
		impl.EName:    "NAME",
		impl.ENum:     "NUM",
		impl.EStr:     "STR",
		impl.EEre:     "ERE",
		impl.EIndex:   "NAME [ list ]",
		impl.ECall:    "FUNC ( list )",
		impl.EBuiltin: "BUILTIN ( list )",
		impl.EPre:     "op target",
		impl.EPost:    "target op",
		impl.EUnary:   "op first",
		impl.EField:   "$ first",
		impl.EBin:     "first op second",
		impl.EAssign:  "target op second",
		impl.ECond:    "first ? second : third",
		impl.EIn:      "first in NAME",
		-impl.EIn:     "( list ) in NAME",
	} {
		for _, word := range strings.Fields(words) {
			x := piece{word, kinds[word], false}
			if texts[word] != 0 {
				x = piece{word, texts[word], true}
			}
			m[kind] = append(m[kind], x)
		}
	}
	return m
}

// tokensCheck tells the tokens of expressions by the document's sentences.
type tokensCheck struct {
	pos       posCheck
	right     rightCheck
	pieces    map[int][]piece
	spellings map[int]string
	more      func() int // pairs of parentheses that need not be
}

func newTokensCheck() tokensCheck {
	none := func() int { return 0 }
	return tokensCheck{newPosCheck(), newRightCheck(), piecesWanted(), spellingsWanted(), none}
}

func (c tokensCheck) exprWanted(l []impl.Node) bool {
	return c.right.treeWanted(l) && slices.Contains(c.right.kinds['X'], l[len(l)-1].Kind)
}

// enclosed puts parentheses around the tokens.
func enclosed(l []impl.Token) []impl.Token {
	return slices.Concat([]impl.Token{{Kind: 32, Text: "("}}, l, []impl.Token{{Kind: 33, Text: ")"}})
}

// at has the tokens of node i at a position. With full, everything but names,
// numbers, strings, indexes and calls is in parentheses.
func (c tokensCheck) at(l []impl.Node, i int, p impl.Pos, full bool) []impl.Token {
	kind := l[i].Kind
	primary := slices.Contains([]int{impl.EName, impl.ENum, impl.EStr, impl.EIndex, impl.ECall, impl.EBuiltin}, kind)
	pairs := c.more()
	if full && !primary || !full && !c.pos.fitsWanted(l[i], p) {
		pairs++
	}
	if pairs == 0 {
		return c.inner(l, i, p, full)
	}
	tokens := c.inner(l, i, impl.Pos{Level: 1}, full)
	for range pairs {
		tokens = enclosed(tokens)
	}
	return tokens
}

// inner has the tokens of node i at a position where it has no parentheses.
func (c tokensCheck) inner(l []impl.Node, i int, p impl.Pos, full bool) []impl.Token {
	n := l[i]
	pieces := c.pieces[n.Kind]
	if n.Kind == impl.EIn && len(n.Kids) > 1 {
		pieces = c.pieces[-n.Kind]
	}
	var tokens []impl.Token
	for _, x := range pieces {
		tokens = append(tokens, c.pieceTokens(l, i, p, full, x)...)
	}
	return tokens
}

func (c tokensCheck) pieceTokens(l []impl.Node, i int, p impl.Pos, full bool, x piece) []impl.Token {
	n := l[i]
	switch k := slices.Index([]string{"first", "second", "third"}, x.word); {
	case k >= 0:
		return c.at(l, n.Kids[k], c.pos.kidWanted(n, k, p), full)
	case x.text:
		return []impl.Token{{Kind: x.kind, Text: n.Text}}
	case x.kind != 0:
		return []impl.Token{{Kind: x.kind, Text: x.word}}
	case x.word == "target":
		return c.inner(l, n.Kids[0], c.pos.kidWanted(n, 0, p), full)
	case x.word == "op" && n.Op == impl.OpCat:
		return nil
	case x.word == "op":
		return []impl.Token{{Kind: n.Op, Text: c.spellings[n.Op]}}
	}
	var list []impl.Token
	for k, kid := range n.Kids {
		if k > 0 {
			list = append(list, impl.Token{Kind: 36, Text: ","})
		}
		list = append(list, c.at(l, kid, impl.Pos{Level: 1}, full)...)
	}
	return list
}

// checkExpr compares ExprTokens at some positions with those that are wanted.
func (c tokensCheck) checkExpr(t *testing.T, l []impl.Node, positions []impl.Pos) {
	t.Helper()
	valid := c.exprWanted(l)
	for _, p := range positions {
		var want []impl.Token
		if valid && posWanted(p) {
			want = c.at(l, len(l)-1, p, false)
		}
		if got := impl.ExprTokens(l, p); !slices.Equal(got, want) {
			t.Errorf("ExprTokens of %s at %+v: %s, want %s", nodesShown(l), p, shown(got), shown(want))
		}
	}
}

func (c tokensCheck) checkFull(t *testing.T, l []impl.Node) {
	t.Helper()
	var want []impl.Token
	if c.exprWanted(l) {
		want = c.at(l, len(l)-1, impl.Pos{Level: 1}, true)
	}
	if got := impl.FullTokens(l); !slices.Equal(got, want) {
		t.Errorf("FullTokens of %s: %s, want %s", nodesShown(l), shown(got), shown(want))
	}
}

// orderedTexts has the tokens of the names and literals of a tree from left to right.
func orderedTexts(l []impl.Node, i int) []impl.Token {
	n := l[i]
	kinds := map[int]int{impl.EName: 6, impl.ENum: 3, impl.EStr: 4, impl.EEre: 5, impl.EIndex: 6, impl.ECall: 7, impl.EBuiltin: 8}
	var tokens []impl.Token
	if kind := kinds[n.Kind]; kind != 0 {
		tokens = append(tokens, impl.Token{Kind: kind, Text: n.Text})
	}
	for _, kid := range n.Kids {
		tokens = append(tokens, orderedTexts(l, kid)...)
	}
	if n.Kind == impl.EIn {
		tokens = append(tokens, impl.Token{Kind: impl.TkName, Text: n.Text})
	}
	return tokens
}

// textTokens has those of the tokens that are names and literals.
func textTokens(l []impl.Token) []impl.Token {
	return slices.DeleteFunc(slices.Clone(l), func(x impl.Token) bool { return x.Kind < 3 || x.Kind > 8 })
}

// matching returns the index of the token that closes the bracket at an index, and
// whether a comma is directly inside.
func matching(l []impl.Token, open int) (int, bool) {
	depth, comma := 0, false
	for i := open; i < len(l); i++ {
		switch l[i].Text {
		case "(", "[":
			depth++
		case ")", "]":
			depth--
		case ",":
			comma = comma || depth == 1
		}
		if depth == 0 {
			return i, comma
		}
	}
	return -1, comma
}

// onlyLists leaves out all parentheses that are no list's.
func onlyLists(l []impl.Token) []impl.Token {
	out := map[int]bool{}
	for i, x := range l {
		if x.Kind != impl.TkLParen || i > 0 && (l[i-1].Kind == impl.TkFunc || l[i-1].Kind == impl.TkBuiltin) {
			continue
		}
		if end, comma := matching(l, i); !comma {
			out[i], out[end] = true, true
		}
	}
	var left []impl.Token
	for i, x := range l {
		if !out[i] {
			left = append(left, x)
		}
	}
	return left
}

// fullReader reads FullTokens back. Every operation stands in parentheses, so it
// needs no levels.
type fullReader struct {
	l  []impl.Token
	at int
}

var errReading = errors.New("no expression in full parentheses")

// kind has the kind of the next token, or 0 at the end.
func (r *fullReader) kind() int {
	if r.at >= len(r.l) {
		return 0
	}
	return r.l[r.at].Kind
}

// take passes over a token, which must be of this kind if it is not 0.
func (r *fullReader) take(kind int) impl.Token {
	if r.at >= len(r.l) || kind != 0 && r.kind() != kind {
		panic(errReading)
	}
	r.at++
	return r.l[r.at-1]
}

func (r *fullReader) list(first, last int) [][]impl.Node {
	var kids [][]impl.Node
	r.take(first)
	for r.kind() != last {
		if len(kids) > 0 {
			r.take(impl.TkComma)
		}
		kids = append(kids, r.part())
	}
	r.take(last)
	return kids
}

// part reads what stands without parentheses, or what is inside of a pair.
func (r *fullReader) part() []impl.Node {
	switch x := r.take(0); x.Kind {
	case impl.TkNum:
		return numTree(x.Text)
	case impl.TkStr:
		return single(impl.EStr, x.Text)
	case impl.TkFunc:
		return callTree(x.Text, r.list(impl.TkLParen, impl.TkRParen)...)
	case impl.TkBuiltin:
		return builtinTree(x.Text, r.list(impl.TkLParen, impl.TkRParen)...)
	case impl.TkName:
		if r.kind() == impl.TkLBrack {
			return indexTree(x.Text, r.list(impl.TkLBrack, impl.TkRBrack)...)
		}
		return nameTree(x.Text)
	case impl.TkLParen:
		l := r.operation()
		r.take(impl.TkRParen)
		return l
	}
	panic(errReading)
}

func (r *fullReader) operation() []impl.Node {
	switch r.kind() {
	case impl.TkEre:
		return ereTree(r.take(0).Text)
	case impl.TkAdd, impl.TkSub, impl.TkNot:
		return unaryTree(r.take(0).Kind, r.part())
	case impl.TkIncr, impl.TkDecr:
		return preTree(r.take(0).Kind, r.operand())
	case impl.TkLParen:
		if _, comma := matching(r.l, r.at); comma {
			kids := r.list(impl.TkLParen, impl.TkRParen)
			r.take(impl.TkIn)
			return inTree(r.take(impl.TkName).Text, kids...)
		}
	}
	return r.rest(r.operand())
}

// operand reads a part, or the target of an assignment, which may be a field without
// parentheses.
func (r *fullReader) operand() []impl.Node {
	if r.kind() == impl.TkDollar {
		r.take(0)
		return fieldTree(r.part())
	}
	return r.part()
}

// rest reads the operation whose first operand is a.
func (r *fullReader) rest(a []impl.Node) []impl.Node {
	op := r.kind()
	switch {
	case op == impl.TkRParen && a[len(a)-1].Kind == impl.EField:
		return a
	case op == impl.TkIn:
		r.take(0)
		return inTree(r.take(impl.TkName).Text, a)
	case op == impl.TkIncr || op == impl.TkDecr:
		return postTree(r.take(0).Kind, a)
	case op == impl.TkAssign || op >= impl.TkAddA && op <= impl.TkPowA:
		return assignTree(r.take(0).Kind, a, r.part())
	case op == impl.TkQuest:
		r.take(0)
		b := r.part()
		r.take(impl.TkColon)
		return condTree(a, b, r.part())
	case op >= impl.TkOr && op <= impl.TkMatch:
		return binTree(r.take(0).Kind, a, r.part())
	}
	return binTree(impl.OpCat, a, r.part())
}

// readFull returns the tree that FullTokens tell.
func readFull(l []impl.Token) (tree []impl.Node, err error) {
	defer func() {
		if what := recover(); what != nil {
			err = fmt.Errorf("%v: %s", what, textOf(l))
		}
	}()
	r := fullReader{l: l}
	tree = r.part()
	if r.at < len(l) {
		return nil, errReading
	}
	return tree, nil
}

// checkAlike checks what ExprTokens and FullTokens of an expression have in common
// with the tree and with each other.
func checkAlike(t *testing.T, l []impl.Node, p impl.Pos) {
	t.Helper()
	few, full := impl.ExprTokens(l, p), impl.FullTokens(l)
	texts := orderedTexts(l, len(l)-1)
	if got := textTokens(few); !slices.Equal(got, texts) {
		t.Errorf("ExprTokens at %+v have the texts %s, want %s", p, shown(got), shown(texts))
	}
	if got := textTokens(full); !slices.Equal(got, texts) {
		t.Errorf("FullTokens have the texts %s, want %s", shown(got), shown(texts))
	}
	if a, b := onlyLists(few), onlyLists(full); !slices.Equal(a, b) {
		t.Errorf("without parentheses, at %+v: %s and %s", p, textOf(a), textOf(b))
	}
	for _, tokens := range [][]impl.Token{few, full} {
		if !impl.TokensOk(tokens) {
			t.Errorf("TokensOk of %s is false", textOf(tokens))
		}
		if s := impl.Spell(tokens); len(s) <= maxTextWanted {
			checkReadBack(t, tokens)
		}
	}
	if impl.Parens(few) > impl.Parens(full) || impl.Parens(full) > 2*len(l) {
		t.Errorf("%d and %d parentheses around %d nodes", impl.Parens(few), impl.Parens(full), len(l))
	}
}

// checkTree checks the tokens of a valid expression, at some positions.
func (c tokensCheck) checkTree(t *testing.T, l []impl.Node, positions []impl.Pos) {
	t.Helper()
	c.checkExpr(t, l, positions)
	c.checkFull(t, l)
	if back, err := readFull(impl.FullTokens(l)); err != nil || !sameNodes(back, l) {
		t.Errorf("FullTokens of %s are read as %s, %v", nodesShown(l), nodesShown(back), err)
	}
}

// tokensCase is a tree with its ExprTokens at a position and its FullTokens.
type tokensCase struct {
	l         []impl.Node
	p         impl.Pos
	few, full string
}

func checkTokens(t *testing.T, cases []tokensCase) {
	t.Helper()
	c := newTokensCheck()
	for _, x := range cases {
		if got := impl.ExprTokens(x.l, x.p); textOf(got) != x.few || !slices.Equal(got, wordsOf(x.few)) {
			t.Errorf("ExprTokens at %+v: %s, want %s", x.p, shown(got), x.few)
		}
		if got := impl.FullTokens(x.l); textOf(got) != x.full || !slices.Equal(got, wordsOf(x.full)) {
			t.Errorf("FullTokens: %s, want %s", shown(got), x.full)
		}
		c.checkTree(t, x.l, []impl.Pos{x.p})
		checkAlike(t, x.l, x.p)
	}
}

func TestP8Examples(t *testing.T) {
	a, b, c, d, e := nameTree("a"), nameTree("b"), nameTree("c"), nameTree("d"), nameTree("e")
	sum, top := binTree(impl.TkAdd, a, b), impl.Top()
	checkTokens(t, []tokensCase{
		{binTree(impl.TkMul, sum, c), top, "( a + b ) * c", "( ( a + b ) * c )"},
		{a, top, "a", "a"},
		{binTree(impl.OpCat, a, unaryTree(impl.TkSub, b)), top, "a ( - b )", "( a ( - b ) )"},
		{fieldTree(postTree(impl.TkIncr, nameTree("i"))), top, "$ ( i ++ )", "( $ ( i ++ ) )"},
		{unaryTree(impl.TkSub, binTree(impl.TkPow, numTree("2"), numTree("3"))), top, "- 2 ^ 3", "( - ( 2 ^ 3 ) )"},
		{inTree("c", a, b), top, "( a , b ) in c", "( ( a , b ) in c )"},
		{unaryTree(impl.TkNot, inTree("y", nameTree("x"))), top, "! ( x in y )", "( ! ( x in y ) )"},
		{condTree(a, b, condTree(c, d, e)), top, "a ? b : c ? d : e", "( a ? b : ( c ? d : e ) )"},
		{binTree(impl.TkGt, a, b), impl.Pos{Level: 1, NoGt: true}, "( a > b )", "( a > b )"},
	})
	gt := binTree(impl.TkGt, a, b)
	tokens := impl.ExprTokens(gt, impl.Pos{Level: 1, NoGt: true})
	if impl.Parens(tokens) != 1 || impl.Bare(tokens, impl.TkGt) || !impl.Bare(tokens, impl.TkLParen) || !impl.Bare(tokens, impl.TkRParen) {
		t.Error("Parens or Bare of ( a > b )")
	}
	if got := impl.ExprTokens(gt, impl.Pos{}); len(got) != 0 {
		t.Error("ExprTokens at the zero position:", shown(got))
	}
}

func TestP8EachKindOfExpression(t *testing.T) {
	a, b, c := nameTree("a"), nameTree("b"), nameTree("c")
	top := impl.Top()
	checkTokens(t, []tokensCase{
		{numTree("1.5e3"), top, "1.5e3", "1.5e3"},
		{single(impl.EStr, `"#"`), top, `"#"`, `"#"`},
		{ereTree("/=/"), top, "/=/", "( /=/ )"},
		{indexTree("x", a), top, "x [ a ]", "x [ a ]"},
		{indexTree("x", a, numTree("1"), c), top, "x [ a , 1 , c ]", "x [ a , 1 , c ]"},
		{fieldTree(a), top, "$ a", "( $ a )"},
		{fieldTree(fieldTree(a)), top, "$ $ a", "( $ ( $ a ) )"},
		{callTree("f"), top, "&f ( )", "&f ( )"},
		{callTree("f", a), top, "&f ( a )", "&f ( a )"},
		{callTree("f", a, ereTree("/x/")), top, "&f ( a , /x/ )", "&f ( a , ( /x/ ) )"},
		{builtinTree("length"), top, "length ( )", "length ( )"},
		{builtinTree("sub", ereTree("/x/"), b, c), top, "sub ( /x/ , b , c )", "sub ( ( /x/ ) , b , c )"},
		{preTree(impl.TkDecr, a), top, "-- a", "( -- a )"},
		{postTree(impl.TkIncr, indexTree("x", a)), top, "x [ a ] ++", "( x [ a ] ++ )"},
		{unaryTree(impl.TkAdd, a), top, "+ a", "( + a )"},
		{unaryTree(impl.TkNot, unaryTree(impl.TkNot, a)), top, "! ! a", "( ! ( ! a ) )"},
		{binTree(impl.OpCat, binTree(impl.OpCat, a, b), c), top, "a b c", "( ( a b ) c )"},
		{binTree(impl.OpCat, a, binTree(impl.OpCat, b, c)), top, "a ( b c )", "( a ( b c ) )"},
		{binTree(impl.TkDiv, a, ereTree("/b/")), top, "a / /b/", "( a / ( /b/ ) )"},
		{binTree(impl.OpCat, a, ereTree("/b/")), top, "a ( /b/ )", "( a ( /b/ ) )"},
		{binTree(impl.OpCat, ereTree("/b/"), a), top, "/b/ a", "( ( /b/ ) a )"},
		{inTree("x", a), top, "a in x", "( a in x )"},
		{inTree("x", inTree("y", a)), top, "a in y in x", "( ( a in y ) in x )"},
		{inTree("x", a, b, c), top, "( a , b , c ) in x", "( ( a , b , c ) in x )"},
		{inTree("x", inTree("y", a, b), c), top, "( ( a , b ) in y , c ) in x", "( ( ( ( a , b ) in y ) , c ) in x )"},
		{inTree("x", inTree("y", a, b)), top, "( a , b ) in y in x", "( ( ( a , b ) in y ) in x )"},
		{condTree(condTree(a, b, c), b, c), top, "( a ? b : c ) ? b : c", "( ( a ? b : c ) ? b : c )"},
		{condTree(a, assignTree(impl.TkAssign, b, c), c), top, "a ? ( b = c ) : c", "( a ? ( b = c ) : c )"},
		{assignTree(impl.TkAssign, a, assignTree(impl.TkPowA, b, c)), top, "a = b ^= c", "( a = ( b ^= c ) )"},
		{assignTree(impl.TkDivA, fieldTree(a), b), top, "$ a /= b", "( $ a /= b )"},
	})
}

// TestP8Operators has each operator between two operations of its own level, each
// level and the next one.
func TestP8Operators(t *testing.T) {
	c := newTokensCheck()
	x, y, z := nameTree("x"), nameTree("y"), nameTree("z")
	for _, first := range binsWanted() {
		for _, op := range first.ops {
			for _, second := range binsWanted() {
				for _, inner := range second.ops {
					c.checkTree(t, binTree(op, binTree(inner, x, y), z), []impl.Pos{impl.Top()})
					c.checkTree(t, binTree(op, x, binTree(inner, y, z)), []impl.Pos{impl.Top()})
				}
			}
		}
	}
	top := impl.Top()
	checkTokens(t, []tokensCase{
		{binTree(impl.TkSub, binTree(impl.TkSub, x, y), z), top, "x - y - z", "( ( x - y ) - z )"},
		{binTree(impl.TkSub, x, binTree(impl.TkSub, y, z)), top, "x - ( y - z )", "( x - ( y - z ) )"},
		{binTree(impl.TkPow, binTree(impl.TkPow, x, y), z), top, "( x ^ y ) ^ z", "( ( x ^ y ) ^ z )"},
		{binTree(impl.TkPow, x, binTree(impl.TkPow, y, z)), top, "x ^ y ^ z", "( x ^ ( y ^ z ) )"},
		{binTree(impl.TkPow, unaryTree(impl.TkSub, x), unaryTree(impl.TkSub, y)), top, "( - x ) ^ - y", "( ( - x ) ^ ( - y ) )"},
		{binTree(impl.TkLt, binTree(impl.TkLt, x, y), z), top, "( x < y ) < z", "( ( x < y ) < z )"},
		{binTree(impl.TkLt, x, binTree(impl.TkGe, y, z)), top, "x < ( y >= z )", "( x < ( y >= z ) )"},
		{binTree(impl.TkMatch, binTree(impl.TkNoMatch, x, y), z), top, "( x !~ y ) ~ z", "( ( x !~ y ) ~ z )"},
		{binTree(impl.TkAnd, binTree(impl.TkOr, x, y), z), top, "( x || y ) && z", "( ( x || y ) && z )"},
		{binTree(impl.TkOr, binTree(impl.TkAnd, x, y), z), top, "x && y || z", "( ( x && y ) || z )"},
		{binTree(impl.TkMod, x, binTree(impl.OpCat, y, z)), top, "x % ( y z )", "( x % ( y z ) )"},
		{binTree(impl.OpCat, x, binTree(impl.TkMod, y, z)), top, "x y % z", "( x ( y % z ) )"},
		{binTree(impl.TkEq, binTree(impl.OpCat, x, y), binTree(impl.TkNe, y, z)), top, "x y == ( y != z )", "( ( x y ) == ( y != z ) )"},
	})
}

// TestP8Targets has each assignment to each kind of target, whose own kids may need
// parentheses although it never has any.
func TestP8Targets(t *testing.T) {
	a, b, top := nameTree("a"), nameTree("b"), impl.Top()
	sum := binTree(impl.TkAdd, a, b)
	strict := impl.Pos{Level: 1, NoIn: true, NoGt: true, NoSign: true}
	checkTokens(t, []tokensCase{
		{assignTree(impl.TkAssign, fieldTree(sum), b), top, "$ ( a + b ) = b", "( $ ( a + b ) = b )"},
		{assignTree(impl.TkAssign, fieldTree(fieldTree(a)), b), top, "$ $ a = b", "( $ ( $ a ) = b )"},
		{assignTree(impl.TkSubA, fieldTree(preTree(impl.TkIncr, a)), b), top, "$ ++ a -= b", "( $ ( ++ a ) -= b )"},
		{assignTree(impl.TkModA, indexTree("x", sum, b), sum), top, "x [ a + b , b ] %= a + b", "( x [ ( a + b ) , b ] %= ( a + b ) )"},
		{preTree(impl.TkIncr, fieldTree(a)), top, "++ $ a", "( ++ $ a )"},
		{preTree(impl.TkIncr, fieldTree(postTree(impl.TkIncr, a))), top, "++ $ ( a ++ )", "( ++ $ ( a ++ ) )"},
		{postTree(impl.TkDecr, fieldTree(preTree(impl.TkDecr, a))), top, "$ -- a --", "( $ ( -- a ) -- )"},
		{postTree(impl.TkDecr, indexTree("x", preTree(impl.TkDecr, a))), top, "x [ -- a ] --", "( x [ ( -- a ) ] -- )"},
		{fieldTree(preTree(impl.TkIncr, fieldTree(sum))), top, "$ ++ $ ( a + b )", "( $ ( ++ $ ( a + b ) ) )"},
		{unaryTree(impl.TkSub, preTree(impl.TkDecr, a)), top, "- -- a", "( - ( -- a ) )"},
		{binTree(impl.TkSub, postTree(impl.TkDecr, a), preTree(impl.TkDecr, b)), top, "a -- - -- b", "( ( a -- ) - ( -- b ) )"},
		{binTree(impl.TkSub, preTree(impl.TkDecr, a), b), strict, "( -- a ) - b", "( ( -- a ) - b )"},
		{binTree(impl.OpCat, a, preTree(impl.TkIncr, b)), top, "a ( ++ b )", "( a ( ++ b ) )"},
		{binTree(impl.OpCat, a, postTree(impl.TkIncr, b)), top, "a b ++", "( a ( b ++ ) )"},
		{assignTree(impl.TkAssign, a, inTree("x", binTree(impl.TkGt, a, b))), top, "a = a > b in x", "( a = ( ( a > b ) in x ) )"},
		{assignTree(impl.TkAssign, a, inTree("x", binTree(impl.TkGt, a, b))), strict, "a = ( a > b in x )", "( a = ( ( a > b ) in x ) )"},
		{assignTree(impl.TkAssign, fieldTree(inTree("x", a)), b), strict, "$ ( a in x ) = b", "( $ ( a in x ) = b )"},
	})
	c := newTokensCheck()
	for _, kid := range sampleExpressions() {
		for _, target := range [][]impl.Node{a, indexTree("x", kid), indexTree("x", a, kid), fieldTree(kid), fieldTree(fieldTree(kid))} {
			for _, op := range []int{impl.TkAssign, impl.TkAddA, impl.TkSubA, impl.TkMulA, impl.TkDivA, impl.TkModA, impl.TkPowA} {
				c.checkTree(t, assignTree(op, target, kid), []impl.Pos{top, strict})
			}
			for _, op := range []int{impl.TkIncr, impl.TkDecr} {
				c.checkTree(t, preTree(op, target), []impl.Pos{top, strict})
				c.checkTree(t, postTree(op, target), []impl.Pos{top, strict})
			}
		}
	}
}

// sampleExpressions has an expression of each kind and level, and some whose first
// or last token belongs to a kid.
func sampleExpressions() [][]impl.Node {
	x, y, one, ere := nameTree("x"), nameTree("y"), numTree("1"), ereTree("/a/")
	minus, incr := unaryTree(impl.TkSub, x), preTree(impl.TkIncr, x)
	return [][]impl.Node{
		x, one, single(impl.EStr, `"a\"b"`), ere,
		indexTree("x", y), indexTree("x", minus, ere), fieldTree(x), fieldTree(incr), fieldTree(minus), fieldTree(ere),
		callTree("f"), callTree("f", minus, x), builtinTree("length"), builtinTree("substr", ere, x, one),
		incr, preTree(impl.TkDecr, fieldTree(x)), postTree(impl.TkIncr, x), postTree(impl.TkDecr, fieldTree(minus)),
		minus, unaryTree(impl.TkAdd, ere), unaryTree(impl.TkNot, inTree("y", x)),
		binTree(impl.TkPow, x, minus), binTree(impl.TkPow, incr, y), binTree(impl.TkMul, ere, x), binTree(impl.TkDiv, x, ere), binTree(impl.TkMod, minus, x),
		binTree(impl.TkAdd, minus, y), binTree(impl.TkSub, x, incr), binTree(impl.OpCat, x, y), binTree(impl.OpCat, minus, ere),
		binTree(impl.TkGt, x, y), binTree(impl.TkGt, ere, minus), binTree(impl.TkLe, x, binTree(impl.TkGt, x, y)), binTree(impl.TkEq, x, y),
		binTree(impl.TkMatch, x, ere), binTree(impl.TkNoMatch, ere, binTree(impl.TkGt, x, y)),
		inTree("a", x), inTree("a", minus), inTree("a", x, y), inTree("a", inTree("b", x), ere, one),
		binTree(impl.TkAnd, inTree("a", x), y), binTree(impl.TkOr, ere, binTree(impl.TkGt, x, y)),
		condTree(x, inTree("a", y), binTree(impl.TkGt, x, y)), condTree(minus, x, assignTree(impl.TkAssign, x, y)),
		assignTree(impl.TkAssign, x, inTree("a", y)), assignTree(impl.TkPowA, fieldTree(minus), binTree(impl.TkGt, x, y)),
	}
}

func TestP8EachKindAsAWholeAndAsEachKid(t *testing.T) {
	t.Parallel()
	c := newTokensCheck()
	samples, positions := sampleExpressions(), validPositions()
	seen := map[int]bool{}
	for _, l := range samples {
		seen[l[len(l)-1].Kind] = true
		c.checkTree(t, l, somePositions())
		for _, p := range positions {
			checkAlike(t, l, p)
		}
	}
	if len(seen) != 15 {
		t.Error(len(seen), "kinds")
	}
	count := 0
	for _, head := range expressionHeads() {
		head.Text = rightTexts(nodeRules()[head.Kind].text)[0]
		for _, kids := range nodeRules()[head.Kind].forms[form{op: head.Op}] {
			for place := range len(kids) {
				for _, sample := range samples {
					subtrees := slices.Repeat([][]impl.Node{nameTree("z")}, len(kids))
					subtrees[place] = sample
					if l := joined(head, subtrees...); c.exprWanted(l) {
						c.checkTree(t, l, positions)
						count++
					}
				}
			}
		}
	}
	if count < 5000 {
		t.Error("only", count, "expressions")
	}
}

// TestP8NestedParentheses has expressions that want parentheses in expressions that
// want them, as deep as a valid tree is.
func TestP8NestedParentheses(t *testing.T) {
	a, b, c, x := nameTree("a"), nameTree("b"), nameTree("c"), nameTree("x")
	power, both, field, list, fall := x, x, x, a, x
	index, call := numTree("1"), numTree("1")
	rep := func(s string, n int) string { return strings.Repeat(s, n) }
	for n := 1; n <= 19; n++ {
		power = binTree(impl.TkPow, power, x)
		both = binTree(impl.TkMul, binTree(impl.TkAdd, both, a), b)
		field = fieldTree(unaryTree(impl.TkSub, field))
		list = inTree("c", list, b)
		fall = unaryTree(impl.TkNot, inTree("c", fall))
		index, call = indexTree("x", index), callTree("f", x, call)
		checkTokens(t, []tokensCase{
			{power, impl.Top(), rep("( ", n-1) + "x" + rep(" ^ x )", n-1) + " ^ x", rep("( ", n) + "x" + rep(" ^ x )", n)},
			{both, impl.Top(), rep("( ", n) + "x" + rep(" + a ) * b", n), rep("( ( ", n) + "x" + rep(" + a ) * b )", n)},
			{field, impl.Top(), rep("$ ( - ", n) + "x" + rep(" )", n), rep("( $ ( - ", n) + "x" + rep(" ) )", n)},
			{list, impl.Top(), rep("( ", n) + "a" + rep(" , b ) in c", n), rep("( ( ", n) + "a" + rep(" , b ) in c )", n)},
			{fall, impl.Top(), rep("! ( ", n) + "x" + rep(" in c )", n), rep("( ! ( ", n) + "x" + rep(" in c ) )", n)},
			{index, impl.Top(), rep("x [ ", n) + "1" + rep(" ]", n), rep("x [ ", n) + "1" + rep(" ]", n)},
			{call, impl.Top(), rep("&f ( x , ", n) + "1" + rep(" )", n), rep("&f ( x , ", n) + "1" + rep(" )", n)},
		})
	}
	checkTokens(t, []tokensCase{
		{callTree("f", inTree("x", callTree("g", a, b), c), binTree(impl.TkMul, binTree(impl.TkAdd, a, b), c)), impl.Top(),
			"&f ( ( &g ( a , b ) , c ) in x , ( a + b ) * c )", "&f ( ( ( &g ( a , b ) , c ) in x ) , ( ( a + b ) * c ) )"},
		{indexTree("x", indexTree("y", inTree("z", a, b), c), callTree("f")), impl.Top(),
			"x [ y [ ( a , b ) in z , c ] , &f ( ) ]", "x [ y [ ( ( a , b ) in z ) , c ] , &f ( ) ]"},
		{unaryTree(impl.TkSub, binTree(impl.OpCat, a, unaryTree(impl.TkSub, binTree(impl.OpCat, b, unaryTree(impl.TkSub, c))))), impl.Top(),
			"- ( a ( - ( b ( - c ) ) ) )", "( - ( a ( - ( b ( - c ) ) ) ) )"},
	})
}

// bush is an expression with this many names, 2 * names - 1 nodes in all.
func bush(op, names int) []impl.Node {
	if names == 1 {
		return nameTree("x")
	}
	return binTree(op, bush(op, names/2), bush(op, names-names/2))
}

func TestP8LargeAndDeepTrees(t *testing.T) {
	c := newTokensCheck()
	positions := []impl.Pos{impl.Top(), {Level: impl.LvPrimary}, {Level: impl.LvField, Dollar: true, NoIn: true, NoGt: true, NoSign: true}}
	for _, binary := range binsWanted() {
		for _, op := range binary.ops {
			largest := unaryTree(impl.TkNot, bush(op, 200))
			c.checkTree(t, largest, positions)
			c.checkExpr(t, unaryTree(impl.TkNot, largest), positions)
			if len(largest) != 400 || len(impl.ExprTokens(largest, impl.Top())) == 0 || len(impl.FullTokens(unaryTree(impl.TkNot, largest))) != 0 {
				t.Error("trees of 400 and 401 nodes")
			}
		}
	}
	for depth := 1; depth <= maxDepthWanted+2; depth++ {
		for _, l := range [][]impl.Node{
			nested(nameTree("x"), impl.Node{Kind: impl.EUnary, Op: impl.TkSub}, depth-1),
			nested(nameTree("x"), impl.Node{Kind: impl.EField}, depth-1),
			nested(nameTree("x"), impl.Node{Kind: impl.EBuiltin, Text: "int"}, depth-1),
			nested(nameTree("x"), impl.Node{Kind: impl.EIn, Text: "a"}, depth-1),
		} {
			few, full := impl.ExprTokens(l, impl.Top()), impl.FullTokens(l)
			if valid := depth <= maxDepthWanted; (len(few) > 0) != valid || (len(full) > 0) != valid {
				t.Errorf("depth %d: %s and %s", depth, shown(few), shown(full))
			}
			c.checkExpr(t, l, positions)
			c.checkFull(t, l)
		}
	}
}

func TestP8RandomTreesAtRandomPositions(t *testing.T) {
	t.Parallel()
	c := newTokensCheck()
	random := rand.New(rand.NewPCG(10, 8))
	m := newNodeMaker(random)
	positions := validPositions()
	enclosed := 0
	for round := range 4000 {
		l := m.tree(1+round%15, 1+round%40, 2+round%20)
		short, unchanged := spare(l)
		var some []impl.Pos
		for range 5 {
			some = append(some, positions[random.IntN(len(positions))])
		}
		c.checkTree(t, short, some)
		for _, p := range some {
			checkAlike(t, short, p)
			enclosed += impl.Parens(impl.ExprTokens(short, p))
		}
		for i := range l {
			if part := impl.Part(l, i); impl.ExprOk(part) {
				c.checkExpr(t, part, some[:1])
			}
		}
		if !unchanged() {
			t.Errorf("%s was changed", nodesShown(l))
		}
	}
	if enclosed < 10000 {
		t.Error("only", enclosed, "parentheses")
	}
}

// checkNone checks that a tree has no tokens anywhere.
func checkNone(t *testing.T, l []impl.Node) {
	t.Helper()
	for _, p := range somePositions() {
		if got := impl.ExprTokens(l, p); len(got) != 0 {
			t.Errorf("ExprTokens of %s at %+v: %s", nodesShown(l), p, shown(got))
		}
	}
	if got := impl.FullTokens(l); len(got) != 0 {
		t.Errorf("FullTokens of %s: %s", nodesShown(l), shown(got))
	}
}

// noExpressions has lists of nodes that are no trees, or not valid ones, or no
// expressions.
func noExpressions() [][]impl.Node {
	x, one := nameTree("x"), numTree("1")
	return [][]impl.Node{
		nil, {}, {{}}, ruleExample(), ruleExample()[1:3], ruleExample()[:2], ruleExample()[:4], ruleExample()[:5], append(nameTree("x"), nameTree("y")...),
		{{Kind: impl.EUnary, Op: impl.TkSub, Kids: []int{0}}}, {{Kind: impl.EField, Kids: []int{-1}}}, {{Kind: impl.EName, Text: "x", Kids: []int{0}}},
		{x[0], one[0], {Kind: impl.EBin, Op: impl.TkAdd, Kids: []int{1, 0}}}, {x[0], one[0], {Kind: impl.EBin, Op: impl.TkAdd, Kids: []int{1, 1}}},
		{x[0], one[0], {Kind: impl.EUnary, Op: impl.TkSub, Kids: []int{1}}}, {x[0], {Kind: impl.EField, Kids: []int{5}}}, {x[0], {Kind: impl.EField, Kids: []int{math.MaxInt}}},
		nameTree("if"), nameTree("sin"), nameTree(""), nameTree("abcdefghijklm"), numTree("x"), numTree("-1"), ereTree("//"), single(impl.EStr, "a"),
		binTree(impl.TkNot, x, one), binTree(0, x, one), joined(impl.Node{Kind: impl.EBin, Op: impl.TkAdd}, x), joined(impl.Node{Kind: impl.EBin, Op: impl.TkAdd}, x, x, x),
		unaryTree(impl.TkIncr, x), unaryTree(impl.TkSub, numTree("")), unaryTree(impl.TkSub, single(impl.ENone, "")), unaryTree(impl.TkSub, single(impl.SNext, "")),
		assignTree(impl.TkAssign, one, x), assignTree(impl.TkEq, x, one), preTree(impl.TkIncr, one), postTree(impl.TkDecr, postTree(impl.TkDecr, x)),
		inTree("a"), inTree("a", x, x, x, x, x, x, x), inTree("if", x), indexTree("x"), indexTree("x", x, x, x, x, x, x, x), callTree("f", x, x, x, x, x, x, x), callTree("sin", x),
		builtinTree("f", x), builtinTree("int", x, x, x, x, x, x, x), {{Kind: impl.EName, Text: "x", Other: "y"}}, {{Kind: impl.EName, Text: "x", Op: 1}},
	}
}

func TestP8TreesThatAreNoExpressions(t *testing.T) {
	c := newTokensCheck()
	for _, kind := range nodeKindsAround() {
		if l := smallest(c.right, kind); kind < impl.EName || kind > impl.EAssign {
			checkNone(t, l)
		} else if len(impl.ExprTokens(l, impl.Top())) == 0 || len(impl.FullTokens(l)) == 0 {
			t.Errorf("no tokens of %s", nodesShown(l))
		}
	}
	for _, l := range noExpressions() {
		checkNone(t, l)
	}
}

// TestP8RandomChanges has valid expressions with one field changed, which may be
// valid still.
func TestP8RandomChanges(t *testing.T) {
	c := newTokensCheck()
	random := rand.New(rand.NewPCG(10, 9))
	m := newNodeMaker(random)
	positions := somePositions()
	none := 0
	for round := range 4000 {
		l := m.tree(1+round%15, 1+round%20, 2+round%10)
		changeNode(random, &l[random.IntN(len(l))])
		c.checkExpr(t, l, []impl.Pos{impl.Top(), positions[random.IntN(len(positions))]})
		c.checkFull(t, l)
		if len(impl.FullTokens(l)) == 0 {
			none++
		}
	}
	if none < 1000 || none == 4000 {
		t.Error(none, "trees without tokens")
	}
}

func TestP8InvalidPositions(t *testing.T) {
	for _, l := range sampleExpressions() {
		for _, p := range invalidPositions() {
			if got := impl.ExprTokens(l, p); len(got) != 0 {
				t.Errorf("ExprTokens of %s at %+v: %s", nodesShown(l), p, shown(got))
			}
		}
	}
}

// parensWanted counts by the index of each token.
func parensWanted(l []impl.Token) int {
	count := 0
	for i := range l {
		if l[i].Kind == 32 && (i == 0 || l[i-1].Kind != 7 && l[i-1].Kind != 8) {
			count++
		}
	}
	return count
}

// bareWanted counts the brackets of both sorts from the beginning, for each token.
func bareWanted(l []impl.Token, kind int) bool {
	for i := range l {
		opened, closed := 0, 0
		for j := range i + 1 {
			if j < i && slices.Contains([]int{30, 32, 34}, l[j].Kind) {
				opened++
			}
			if slices.Contains([]int{31, 33, 35}, l[j].Kind) {
				closed++
			}
		}
		if l[i].Kind == kind && opened == closed {
			return true
		}
	}
	return false
}

func checkCounts(t *testing.T, l []impl.Token, kinds []int) {
	t.Helper()
	if got, want := impl.Parens(l), parensWanted(l); got != want {
		t.Errorf("Parens of %s is %d, want %d", shown(l), got, want)
	}
	for _, kind := range kinds {
		if got, want := impl.Bare(l, kind), bareWanted(l, kind); got != want {
			t.Errorf("Bare of %d in %s is %v", kind, shown(l), got)
		}
	}
}

func TestP8ParensExamples(t *testing.T) {
	for text, want := range map[string]int{
		"": 0, "x": 0, "( x )": 1, "( ( x ) )": 2, "&f ( )": 0, "&f ( ( x ) )": 1, "length ( )": 0, "length ( ( x ) , ( y ) )": 2,
		"x ( y )": 1, "x [ ( y ) ]": 1, "( a , b ) in c": 1, "[ x ]": 0, "{ x }": 0, ") ) )": 0, "( ( (": 3, "&f ( (": 1, "&f length ( (": 1,
		"if ( x )": 1, "$ ( x )": 1, "&f x (": 1, "( &f": 1, "&f": 0, "&f [ (": 1,
	} {
		if got := impl.Parens(wordsOf(text)); got != want {
			t.Errorf("Parens of %s is %d, want %d", text, got, want)
		}
	}
}

func TestP8BareExamples(t *testing.T) {
	for _, x := range []struct {
		text string
		bare []int
		not  []int
	}{
		{"", nil, []int{0, impl.TkName, impl.TkLParen}},
		{"x", []int{impl.TkName}, []int{0, impl.TkNum}},
		{"( x )", []int{impl.TkLParen, impl.TkRParen}, []int{impl.TkName}},
		{"x [ 1 ]", []int{impl.TkName, impl.TkLBrack, impl.TkRBrack}, []int{impl.TkNum}},
		{"{ x ; }", []int{impl.TkLBrace, impl.TkRBrace}, []int{impl.TkName, impl.TkSemi}},
		{"( x ) > 1", []int{impl.TkGt, impl.TkNum}, []int{impl.TkName}},
		{"( a > b )", []int{impl.TkLParen, impl.TkRParen}, []int{impl.TkGt, impl.TkName}},
		{"( x in a ) in b", []int{impl.TkIn, impl.TkName}, nil},
		{"( x [ 1 ] )", []int{impl.TkLParen, impl.TkRParen}, []int{impl.TkName, impl.TkLBrack, impl.TkRBrack, impl.TkNum}},
		{"( [ x", []int{impl.TkLParen}, []int{impl.TkLBrack, impl.TkName}},
		{"x )", []int{impl.TkName}, []int{impl.TkRParen}},
		{") x", nil, []int{impl.TkRParen, impl.TkName}},
		{") ( x", []int{impl.TkName}, []int{impl.TkLParen, impl.TkRParen}},
		{") [ x", []int{impl.TkName}, []int{impl.TkLBrack, impl.TkRParen}},
		{"( ] x", []int{impl.TkLParen, impl.TkRBrack, impl.TkName}, []int{impl.TkRParen}},
		{"{ ( ] ) x", []int{impl.TkLBrace, impl.TkRParen, impl.TkName}, []int{impl.TkLParen, impl.TkRBrack}},
		{"< x >", []int{impl.TkLt, impl.TkName, impl.TkGt}, nil},
		{"&f ( x )", []int{impl.TkFunc, impl.TkLParen, impl.TkRParen}, []int{impl.TkName}},
	} {
		l := wordsOf(x.text)
		checkCounts(t, l, append(slices.Clone(x.bare), x.not...))
		for _, kind := range x.bare {
			if !impl.Bare(l, kind) {
				t.Errorf("Bare of %d in %s is false", kind, x.text)
			}
		}
		for _, kind := range x.not {
			if impl.Bare(l, kind) {
				t.Errorf("Bare of %d in %s is true", kind, x.text)
			}
		}
	}
}

// TestP8CountsOfShortLists has all short lists of brackets and what may stand beside
// them.
func TestP8CountsOfShortLists(t *testing.T) {
	kinds := []int{impl.TkLParen, impl.TkRParen, impl.TkLBrack, impl.TkRBrack, impl.TkLBrace, impl.TkRBrace, impl.TkFunc, impl.TkBuiltin, impl.TkName, 0}
	asked := append(slices.Clone(kinds), impl.TkComma, 9, -1)
	for _, choice := range kidChoices(0, len(kinds)-1, 4) {
		var l []impl.Token
		for _, k := range choice {
			l = append(l, impl.Token{Kind: kinds[k]})
		}
		checkCounts(t, l, asked)
	}
}

// TestP8CountsOfAnyTokens has tokens of all kinds and of none, with texts that do
// not go with their kinds.
func TestP8CountsOfAnyTokens(t *testing.T) {
	t.Parallel()
	random := rand.New(rand.NewPCG(10, 10))
	kinds := append(nodeKindsAround(), 1<<32+impl.TkLParen, 1<<32+impl.TkRParen, 256+impl.TkFunc, -impl.TkLParen)
	texts := []string{"", "(", ")", "[", "]", "{", "}", "f", "length", "x"}
	for round := range 3000 {
		var l []impl.Token
		for range round % 40 {
			kind := kinds[random.IntN(len(kinds))]
			if random.IntN(3) > 0 {
				kind = []int{7, 8, 30, 31, 32, 32, 33, 33, 34, 35}[random.IntN(10)]
			}
			l = append(l, impl.Token{Kind: kind, Text: texts[random.IntN(len(texts))], At: random.IntN(9) - 4})
		}
		checkCounts(t, l, kinds)
	}
}

func TestP8ArgumentsStayAndResultsAreNew(t *testing.T) {
	for _, l := range append(sampleExpressions(), nil, ruleExample()) {
		short, unchanged := spare(l)
		first := [][]impl.Token{impl.ExprTokens(short, impl.Top()), impl.FullTokens(short)}
		before := [][]impl.Token{slices.Clone(first[0]), slices.Clone(first[1])}
		for _, tokens := range [][]impl.Token{impl.ExprTokens(short, impl.Top()), impl.FullTokens(short)} {
			for i := range tokens[:cap(tokens)] {
				tokens[:cap(tokens)][i] = impl.Token{Kind: -1, Text: "changed", At: -1}
			}
		}
		if !slices.Equal(first[0], before[0]) || !slices.Equal(first[1], before[1]) {
			t.Errorf("two results of %s share memory", nodesShown(l))
		}
		if !unchanged() {
			t.Errorf("%s was changed", nodesShown(l))
		}
	}
	long := wordsOf("( a + ( b ) ) ) x [ 1 ] &f ( x )")
	before := slices.Clone(long)
	impl.Parens(long[:5])
	impl.Bare(long[:5], impl.TkName)
	impl.Bare(long[:5], -1)
	if !slices.Equal(long, before) {
		t.Error("an argument was changed")
	}
}

// checkForbiddenTokens looks in ExprTokens for what the position forbids.
func checkForbiddenTokens(t *testing.T, l []impl.Node, p impl.Pos) {
	t.Helper()
	tokens := impl.ExprTokens(l, p)
	if len(tokens) == 0 {
		t.Errorf("%s has no tokens at %+v", nodesShown(l), p)
		return
	}
	seen := outsideBrackets(kindsOf(tokens))
	for kind, forbidden := range map[int]bool{impl.TkIn: p.NoIn, impl.TkGt: p.NoGt} {
		if forbidden && (seen[kind] || impl.Bare(tokens, kind)) {
			t.Errorf("at %+v: %s", p, textOf(tokens))
		}
	}
	if first := tokens[0].Kind; p.NoSign && !impl.BeginsOperand(first) {
		t.Errorf("at %+v: %s begins with a sign or a regular expression", p, textOf(tokens))
	}
}

func TestP6ForbiddenExprTokensExamples(t *testing.T) {
	a, b, c := nameTree("a"), nameTree("b"), nameTree("c")
	in, gt := inTree("x", a), binTree(impl.TkGt, a, b)
	noIn, noGt, noSign := impl.Pos{Level: 1, NoIn: true}, impl.Pos{Level: 1, NoGt: true}, impl.Pos{Level: 1, NoSign: true}
	for _, x := range []struct {
		l    []impl.Node
		p    impl.Pos
		want string
	}{
		{in, noIn, "( a in x )"},
		{in, noGt, "a in x"},
		{inTree("x", a, b), noIn, "( ( a , b ) in x )"},
		{assignTree(impl.TkAssign, a, in), noIn, "a = ( a in x )"},
		{condTree(in, in, in), noIn, "( a in x ) ? ( a in x ) : ( a in x )"},
		{binTree(impl.TkAnd, a, in), noIn, "a && ( a in x )"},
		{binTree(impl.TkOr, gt, in), noIn, "a > b || ( a in x )"},
		{callTree("f", in, gt), impl.Pos{Level: 1, NoIn: true, NoGt: true}, "&f ( a in x , a > b )"},
		{indexTree("y", in), noIn, "y [ a in x ]"},
		{unaryTree(impl.TkNot, in), noIn, "! ( a in x )"},
		{binTree(impl.TkMul, binTree(impl.TkOr, in, gt), a), impl.Pos{Level: 1, NoIn: true, NoGt: true}, "( a in x || a > b ) * a"},
		{gt, noGt, "( a > b )"},
		{gt, noIn, "a > b"},
		{gt, noSign, "a > b"},
		{binTree(impl.TkGe, a, b), noGt, "a >= b"},
		{binTree(impl.TkOr, gt, gt), noGt, "( a > b ) || ( a > b )"},
		{assignTree(impl.TkAddA, a, assignTree(impl.TkAssign, b, gt)), noGt, "a += b = ( a > b )"},
		{inTree("x", gt), noGt, "( a > b ) in x"},
		{inTree("x", gt, c), noGt, "( a > b , c ) in x"},
		{unaryTree(impl.TkSub, a), noSign, "( - a )"},
		{ereTree("/a/"), noSign, "( /a/ )"},
		{preTree(impl.TkIncr, a), noSign, "( ++ a )"},
		{postTree(impl.TkIncr, a), noSign, "a ++"},
		{binTree(impl.TkAdd, unaryTree(impl.TkNot, a), unaryTree(impl.TkNot, b)), noSign, "( ! a ) + ! b"},
		{binTree(impl.TkMatch, ereTree("/a/"), ereTree("/b/")), noSign, "( /a/ ) ~ /b/"},
		{condTree(preTree(impl.TkDecr, a), preTree(impl.TkDecr, b), c), noSign, "( -- a ) ? -- b : c"},
		{inTree("x", unaryTree(impl.TkSub, a)), noSign, "( - a ) in x"},
		{inTree("x", unaryTree(impl.TkSub, a), b), noSign, "( - a , b ) in x"},
		{fieldTree(unaryTree(impl.TkSub, a)), noSign, "$ ( - a )"},
		{fieldTree(preTree(impl.TkIncr, a)), noSign, "$ ++ a"},
		{binTree(impl.OpCat, binTree(impl.OpCat, a, ereTree("/b/")), binTree(impl.TkAdd, unaryTree(impl.TkSub, b), c)), impl.Top(), "a ( /b/ ) ( - b ) + c"},
		{preTree(impl.TkIncr, a), impl.Pos{Level: impl.LvField, Dollar: true}, "++ a"},
		{preTree(impl.TkIncr, a), impl.Pos{Level: impl.LvField}, "( ++ a )"},
		{preTree(impl.TkIncr, a), impl.Pos{Level: impl.LvField, Dollar: true, NoSign: true}, "( ++ a )"},
		{postTree(impl.TkIncr, a), impl.Pos{Level: impl.LvField, Dollar: true}, "( a ++ )"},
		{fieldTree(a), impl.Pos{Level: impl.LvPrimary}, "( $ a )"},
	} {
		if got := textOf(impl.ExprTokens(x.l, x.p)); got != x.want {
			t.Errorf("at %+v: %s, want %s", x.p, got, x.want)
		}
		checkForbiddenTokens(t, x.l, x.p)
	}
}

func TestP6ForbiddenExprTokensOfRandomTrees(t *testing.T) {
	t.Parallel()
	m := newNodeMaker(rand.New(rand.NewPCG(10, 6)))
	for round := range 1500 {
		l := m.tree(1+round%15, 1+round%30, 2+round%12)
		for _, p := range validPositions() {
			checkForbiddenTokens(t, l, p)
		}
	}
}

// TestP6ForbiddenExprTokensOfSmallExpressions has each sample as the only other kid
// of each expression.
func TestP6ForbiddenExprTokensOfSmallExpressions(t *testing.T) {
	t.Parallel()
	for _, sample := range sampleExpressions() {
		for _, l := range smallExpressions([][]impl.Node{nameTree("x"), sample}) {
			for _, p := range validPositions() {
				checkForbiddenTokens(t, l, p)
			}
		}
	}
}
