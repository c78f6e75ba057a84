package tests

import (
	"math"
	"math/rand/v2"
	"slices"
	"strings"
	"testing"

	"loop.example/g01543/impl"
)

// Each test here belongs to promise 5: the subtrees of a valid tree are valid,
// where valid is what the document says of each kind of node.

const (
	maxDepthWanted = 40
	maxArgsWanted  = 6
)

// form is what Op and Other may be together.
type form struct {
	op    int
	other string
}

// nodeRule is what the document says of one kind. Each string of forms has one
// letter for each kid: X an expression, L an lvalue, N a name, Z an expression or
// ENone, B a block; any is the letter of any number of kids: S a statement, I an
// item or a comment.
type nodeRule struct {
	text      string
	nameOther bool
	forms     map[form][]string
	any       string
}

// upTo has the strings of least to most letters.
func upTo(letter string, least, most int) []string {
	var l []string
	for n := least; n <= most; n++ {
		l = append(l, strings.Repeat(letter, n))
	}
	return l
}

// plain has no Op and no Other, and one of these lists of kids.
func plain(kids ...string) map[form][]string {
	return map[form][]string{{}: kids}
}

// withOps has each of these Ops and the same kids.
func withOps(kids string, ops ...int) map[form][]string {
	m := map[form][]string{}
	for _, op := range ops {
		m[form{op: op}] = []string{kids}
	}
	return m
}

func printForms() map[form][]string {
	m := map[form][]string{}
	for op := range 2 {
		m[form{op, ""}] = upTo("X", op, maxArgsWanted)
		for _, other := range []string{">", ">>", "|"} {
			m[form{op, other}] = upTo("X", op+1, maxArgsWanted+1)
		}
	}
	return m
}

func funcForms() map[form][]string {
	var kids []string
	for _, names := range upTo("N", 0, maxArgsWanted) {
		kids = append(kids, names+"B")
	}
	return plain(kids...)
}

func nodeRules() map[int]nodeRule {
	unary := []int{impl.TkAdd, impl.TkSub, impl.TkNot}
	binary := []int{
		impl.TkPow, impl.TkMul, impl.TkDiv, impl.TkMod, impl.TkAdd, impl.TkSub, impl.OpCat, impl.TkLt, impl.TkLe,
		impl.TkEq, impl.TkNe, impl.TkGt, impl.TkGe, impl.TkMatch, impl.TkNoMatch, impl.TkAnd, impl.TkOr,
	}
	assigns := []int{impl.TkAssign, impl.TkAddA, impl.TkSubA, impl.TkMulA, impl.TkDivA, impl.TkModA, impl.TkPowA}
	return map[int]nodeRule{
		impl.EName:     {text: "name", forms: plain("")},
		impl.ENum:      {text: "number", forms: plain("")},
		impl.EStr:      {text: "string", forms: plain("")},
		impl.EEre:      {text: "regular expression", forms: plain("")},
		impl.EIndex:    {text: "name", forms: plain(upTo("X", 1, maxArgsWanted)...)},
		impl.EField:    {forms: plain("X")},
		impl.ECall:     {text: "name", forms: plain(upTo("X", 0, maxArgsWanted)...)},
		impl.EBuiltin:  {text: "builtin", forms: plain(upTo("X", 0, maxArgsWanted)...)},
		impl.EPre:      {forms: withOps("L", impl.TkIncr, impl.TkDecr)},
		impl.EPost:     {forms: withOps("L", impl.TkIncr, impl.TkDecr)},
		impl.EUnary:    {forms: withOps("X", unary...)},
		impl.EBin:      {forms: withOps("XX", binary...)},
		impl.EIn:       {text: "name", forms: plain(upTo("X", 1, maxArgsWanted)...)},
		impl.ECond:     {forms: plain("XXX")},
		impl.EAssign:   {forms: withOps("LX", assigns...)},
		impl.ENone:     {forms: plain("")},
		impl.SExpr:     {forms: plain("X")},
		impl.SPrint:    {forms: printForms()},
		impl.SNext:     {forms: plain("")},
		impl.SExit:     {forms: plain("", "X")},
		impl.SReturn:   {forms: plain("", "X")},
		impl.SBreak:    {forms: plain("")},
		impl.SContinue: {forms: plain("")},
		impl.SDelete:   {text: "name", forms: plain(upTo("X", 0, maxArgsWanted)...)},
		impl.SIf:       {forms: plain("XB", "XBB")},
		impl.SWhile:    {forms: plain("XB")},
		impl.SDo:       {forms: plain("BX")},
		impl.SFor:      {forms: plain("ZZZB")},
		impl.SForIn:    {text: "name", nameOther: true, forms: plain("B")},
		impl.SBlock:    {forms: plain(), any: "S"},
		impl.SComment:  {text: "comment", forms: plain("")},
		impl.IBegin:    {forms: plain("B")},
		impl.IEnd:      {forms: plain("B")},
		impl.IRule:     {forms: map[form][]string{{1, ""}: {"X"}, {2, ""}: {"B"}, {3, ""}: {"XB"}}},
		impl.IRange:    {forms: map[form][]string{{1, ""}: {"XX"}, {3, ""}: {"XXB"}}},
		impl.IFunc:     {text: "name", forms: funcForms()},
		impl.PProgram:  {forms: plain(), any: "I"},
	}
}

// letterKinds has the kinds that each letter of a rule permits.
func letterKinds() map[byte][]int {
	span := func(first, last int) []int {
		var l []int
		for kind := first; kind <= last; kind++ {
			l = append(l, kind)
		}
		return l
	}
	return map[byte][]int{
		'X': span(1, 15), 'L': {1, 5, 6}, 'N': {1}, 'Z': span(1, 16), 'B': {33}, 'S': span(20, 34), 'I': append(span(40, 44), 34),
	}
}

// rightCheck tells valid nodes and trees by the document's lists.
type rightCheck struct {
	tokens tokenCheck
	rules  map[int]nodeRule
	kinds  map[byte][]int
}

func newRightCheck() rightCheck {
	return rightCheck{newTokenCheck(), nodeRules(), letterKinds()}
}

func (c rightCheck) textWanted(text, s string) bool {
	kind := map[string]int{"comment": 2, "number": 3, "string": 4, "regular expression": 5, "name": 6, "builtin": 8}[text]
	if kind == 0 {
		return s == ""
	}
	return c.tokens.want(kind, s)
}

// letters returns the letters of the kids of n, and false if its fields are not
// valid.
func (c rightCheck) letters(n impl.Node) (string, bool) {
	rule, ok := c.rules[n.Kind]
	if !ok || !c.textWanted(rule.text, n.Text) {
		return "", false
	}
	key := form{n.Op, n.Other}
	if rule.nameOther {
		if !c.textWanted("name", n.Other) {
			return "", false
		}
		key.other = ""
	}
	kids, ok := rule.forms[key]
	if ok && rule.any != "" {
		return strings.Repeat(rule.any, len(n.Kids)), true
	}
	i := slices.IndexFunc(kids, func(letters string) bool { return len(letters) == len(n.Kids) })
	if i < 0 {
		return "", false
	}
	return kids[i], true
}

func (c rightCheck) fieldsWanted(n impl.Node) bool {
	_, ok := c.letters(n)
	return ok
}

func depthWanted(l []impl.Node, i int) int {
	depth := 0
	for _, kid := range l[i].Kids {
		depth = max(depth, depthWanted(l, kid))
	}
	return depth + 1
}

func (c rightCheck) treeWanted(l []impl.Node) bool {
	if !shapeWanted(l) || depthWanted(l, len(l)-1) > maxDepthWanted {
		return false
	}
	for _, n := range l {
		letters, ok := c.letters(n)
		if !ok {
			return false
		}
		for place, kid := range n.Kids {
			if !slices.Contains(c.kinds[letters[place]], l[kid].Kind) {
				return false
			}
		}
	}
	return true
}

// check compares what the functions say of a tree with what they should say.
func (c rightCheck) check(t *testing.T, l []impl.Node) {
	t.Helper()
	valid := c.treeWanted(l)
	expr := valid && slices.Contains(c.kinds['X'], l[len(l)-1].Kind)
	program := valid && l[len(l)-1].Kind == impl.PProgram
	if a, b, d := impl.TreeOk(l), impl.ExprOk(l), impl.ProgramOk(l); a != valid || b != expr || d != program {
		t.Errorf("%s: TreeOk %v, ExprOk %v, ProgramOk %v, want %v, %v, %v", nodesShown(l), a, b, d, valid, expr, program)
	}
}

// checkParts checks a valid tree and that its subtrees are valid.
func (c rightCheck) checkParts(t *testing.T, l []impl.Node) {
	t.Helper()
	before := cloned(l)
	c.check(t, l)
	for i := range l {
		if part := impl.Part(l, i); !impl.TreeOk(part) {
			t.Errorf("%s is valid, but its subtree %s is not", nodesShown(l), nodesShown(part))
		} else {
			c.check(t, part)
		}
	}
	if !sameNodes(l, before) {
		t.Errorf("%s was changed", nodesShown(before))
	}
}

// joined is the tree of this root with these subtrees.
func joined(root impl.Node, subtrees ...[]impl.Node) []impl.Node {
	var l []impl.Node
	root.Kids = nil
	for _, subtree := range subtrees {
		start := len(l)
		for _, n := range cloned(subtree) {
			for k := range n.Kids {
				n.Kids[k] += start
			}
			l = append(l, n)
		}
		root.Kids = append(root.Kids, len(l)-1)
	}
	return append(l, root)
}

// single is a tree of one node.
func single(kind int, text string) []impl.Node {
	return []impl.Node{{Kind: kind, Text: text}}
}

// rightTexts has valid texts of each sort.
func rightTexts(text string) []string {
	return map[string][]string{
		"": {""}, "name": {"x", "_", "NR", "abcdefghijkl"}, "number": {"1", "3.5", "7.", ".5e-3"}, "string": {`""`, `"a\"b"`, `"# x"`},
		"regular expression": {"/a/", `/\//`}, "builtin": strings.Fields(builtinsWanted), "comment": {"#", "# it's"},
	}[text]
}

// nodeMaker makes random valid trees.
type nodeMaker struct {
	c      rightCheck
	random *rand.Rand
	left   int // nodes that may still be made beside those that must be
}

func newNodeMaker(random *rand.Rand) *nodeMaker {
	return &nodeMaker{c: newRightCheck(), random: random}
}

// pick returns one of the strings.
func (m *nodeMaker) pick(l []string) string {
	return l[m.random.IntN(len(l))]
}

// rootOf returns a node of this kind with valid fields, and the letters of its kids.
func (m *nodeMaker) rootOf(kind int, short bool) (impl.Node, string) {
	rule := m.c.rules[kind]
	n := impl.Node{Kind: kind, Text: m.pick(rightTexts(rule.text))}
	var forms []form
	for f := range rule.forms {
		forms = append(forms, f)
	}
	slices.SortFunc(forms, func(a, b form) int { return (a.op-b.op)*100 + strings.Compare(a.other, b.other) })
	f := forms[m.random.IntN(len(forms))]
	n.Op, n.Other = f.op, f.other
	if rule.nameOther {
		n.Other = m.pick(rightTexts("name"))
	}
	kids := rule.forms[f]
	if rule.any != "" {
		kids = upTo(rule.any, 0, 4)
	}
	if short {
		return n, kids[0]
	}
	return n, m.pick(kids)
}

// leafOf is a kind that a letter permits and that needs no more than one level below.
func leafOf(letter byte) int {
	return map[byte]int{'X': impl.ENum, 'L': impl.EName, 'N': impl.EName, 'Z': impl.ENone, 'B': impl.SBlock, 'S': impl.SNext, 'I': impl.SComment}[letter]
}

// grow returns a valid tree of the kind with at most this depth, which is at least 2.
func (m *nodeMaker) grow(kind, depth int) []impl.Node {
	n, letters := m.rootOf(kind, depth <= 2 || m.left <= 0)
	m.left -= len(letters)
	var subtrees [][]impl.Node
	for i := range len(letters) {
		kinds := m.c.kinds[letters[i]]
		kid := kinds[m.random.IntN(len(kinds))]
		if depth <= 2 || m.left <= 0 {
			kid = leafOf(letters[i])
		}
		if depth <= 2 {
			subtrees = append(subtrees, single(kid, rightTexts(m.c.rules[kid].text)[0]))
		} else {
			subtrees = append(subtrees, m.grow(kid, depth-1))
		}
	}
	return joined(n, subtrees...)
}

// tree returns a valid tree of the kind with about this many nodes.
func (m *nodeMaker) tree(kind, size, depth int) []impl.Node {
	m.left = size
	return m.grow(kind, depth)
}

// validKinds has all kinds of nodes in order.
func validKinds() []int {
	var l []int
	for kind := range nodeRules() {
		l = append(l, kind)
	}
	slices.Sort(l)
	return l
}

func TestP5KindsOfNodes(t *testing.T) {
	if impl.MaxArgs != maxArgsWanted || impl.MaxDepth != maxDepthWanted {
		t.Error("MaxArgs, MaxDepth:", impl.MaxArgs, impl.MaxDepth)
	}
	expressions := []int{1, 2, 3, 4, 5, 6, 7, 8, 9, 10, 11, 12, 13, 14, 15}
	statements := []int{20, 21, 22, 23, 24, 25, 26, 27, 28, 29, 30, 31, 32, 33, 34}
	for _, kind := range someKinds() {
		if got := impl.IsExpr(kind); got != slices.Contains(expressions, kind) {
			t.Errorf("IsExpr(%d) is %v", kind, got)
		}
		if got := impl.IsStmt(kind); got != slices.Contains(statements, kind) {
			t.Errorf("IsStmt(%d) is %v", kind, got)
		}
		if got := impl.IsLvalue(kind); got != (kind == 1 || kind == 5 || kind == 6) {
			t.Errorf("IsLvalue(%d) is %v", kind, got)
		}
	}
}

// checkFields compares FieldsOk of a node, whatever its kids are, with the rules.
func (c rightCheck) checkFields(t *testing.T, n impl.Node) {
	t.Helper()
	if got := impl.FieldsOk(n); got != c.fieldsWanted(n) {
		t.Errorf("FieldsOk of kind %d, Op %d, Text %q, Other %q, %d kids is %v", n.Kind, n.Op, n.Text, n.Other, len(n.Kids), got)
	}
}

// nodeKindsAround has all kinds, the numbers between and around them, and far ones.
func nodeKindsAround() []int {
	l := []int{math.MinInt, -1 << 32, 1 << 32, 1<<32 + 1, math.MaxInt}
	for kind := -5; kind <= 110; kind++ {
		l = append(l, kind)
	}
	return l
}

// kidsOf has kids 0, 1, 2 ..., which are those of the highest possible node.
func kidsOf(n int) []int {
	var l []int
	for i := range n {
		l = append(l, i)
	}
	return l
}

func TestP5FieldsOfEachKindAndOp(t *testing.T) {
	c := newRightCheck()
	for _, kind := range nodeKindsAround() {
		text := rightTexts(c.rules[kind].text)[0]
		for _, op := range append(nodeKindsAround(), 256+impl.TkAdd, 1<<32+impl.TkIncr) {
			for _, other := range []string{"", ">", ">>", "|", "x"} {
				for count := range 10 {
					c.checkFields(t, impl.Node{Kind: kind, Op: op, Text: text, Other: other, Kids: kidsOf(count)})
				}
			}
		}
	}
}

// strangeTexts has valid and invalid texts of all sorts.
func strangeTexts() []string {
	return []string{
		"", "x", "X9_", "abcdefghijkl", "abcdefghijklm", "9x", "x y", " x", "x ", "x\n", "é", "if", "in", "BEGIN", "getline", "func", "function", "print",
		"length", "substr", "getlines", "lengthy", "1", "1.", ".", "1e", "1e5", "-1", "1x", "\"\"", "\"a", "\"a\"b", "\"a\nb\"", "\"\\\"\"",
		"//", "/a/", "/a", "/a/b", "/\\//", "#", "#a", "# x\n", "a#", ">", ">>", "|", "<", ">>>", "||", "> ", "+", "{", "\x00", "\xff",
	}
}

func TestP5FieldsOfEachKindAndText(t *testing.T) {
	t.Parallel()
	c := newRightCheck()
	for _, kind := range nodeKindsAround() {
		ops := map[int]bool{0: true}
		for f := range c.rules[kind].forms {
			ops[f.op] = true
		}
		for op := range ops {
			for _, text := range strangeTexts() {
				for _, other := range strangeTexts() {
					for _, count := range []int{0, 1, 2, 3, 4, 7} {
						c.checkFields(t, impl.Node{Kind: kind, Op: op, Text: text, Other: other, Kids: kidsOf(count)})
					}
				}
			}
		}
	}
}

func TestP5FieldsOfWords(t *testing.T) {
	c := newRightCheck()
	words := append(strings.Fields(keywordsWanted+" "+builtinsWanted+" "+operatorsWanted), strangeTexts()...)
	for _, word := range words {
		for _, kind := range validKinds() {
			for _, count := range []int{0, 1} {
				c.checkFields(t, impl.Node{Kind: kind, Text: word, Kids: kidsOf(count)})
				c.checkFields(t, impl.Node{Kind: kind, Text: "x", Other: word, Kids: kidsOf(count)})
				c.checkFields(t, impl.Node{Kind: kind, Text: word, Other: word, Kids: kidsOf(count)})
			}
		}
	}
}

// fieldCase is a kind with its limits, as the document's sentences have them.
type fieldCase struct {
	n           impl.Node
	least, most int
}

func TestP5NumbersOfKids(t *testing.T) {
	for _, x := range []fieldCase{
		{impl.Node{Kind: impl.EName, Text: "x"}, 0, 0}, {impl.Node{Kind: impl.ENum, Text: "1"}, 0, 0}, {impl.Node{Kind: impl.EStr, Text: `"a"`}, 0, 0}, {impl.Node{Kind: impl.EEre, Text: "/a/"}, 0, 0},
		{impl.Node{Kind: impl.EIndex, Text: "x"}, 1, 6}, {impl.Node{Kind: impl.EField}, 1, 1}, {impl.Node{Kind: impl.ECall, Text: "x"}, 0, 6}, {impl.Node{Kind: impl.EBuiltin, Text: "sin"}, 0, 6},
		{impl.Node{Kind: impl.EPre, Op: impl.TkIncr}, 1, 1}, {impl.Node{Kind: impl.EPost, Op: impl.TkDecr}, 1, 1}, {impl.Node{Kind: impl.EUnary, Op: impl.TkNot}, 1, 1},
		{impl.Node{Kind: impl.EBin, Op: impl.OpCat}, 2, 2}, {impl.Node{Kind: impl.EIn, Text: "x"}, 1, 6}, {impl.Node{Kind: impl.ECond}, 3, 3}, {impl.Node{Kind: impl.EAssign, Op: impl.TkPowA}, 2, 2}, {impl.Node{Kind: impl.ENone}, 0, 0},
		{impl.Node{Kind: impl.SExpr}, 1, 1}, {impl.Node{Kind: impl.SPrint}, 0, 6}, {impl.Node{Kind: impl.SPrint, Op: 1}, 1, 6}, {impl.Node{Kind: impl.SPrint, Other: ">"}, 1, 7}, {impl.Node{Kind: impl.SPrint, Op: 1, Other: "|"}, 2, 7},
		{impl.Node{Kind: impl.SNext}, 0, 0}, {impl.Node{Kind: impl.SExit}, 0, 1}, {impl.Node{Kind: impl.SReturn}, 0, 1}, {impl.Node{Kind: impl.SBreak}, 0, 0}, {impl.Node{Kind: impl.SContinue}, 0, 0}, {impl.Node{Kind: impl.SDelete, Text: "x"}, 0, 6},
		{impl.Node{Kind: impl.SIf}, 2, 3}, {impl.Node{Kind: impl.SWhile}, 2, 2}, {impl.Node{Kind: impl.SDo}, 2, 2}, {impl.Node{Kind: impl.SFor}, 4, 4}, {impl.Node{Kind: impl.SForIn, Text: "x", Other: "y"}, 1, 1}, {impl.Node{Kind: impl.SComment, Text: "#"}, 0, 0},
		{impl.Node{Kind: impl.IBegin}, 1, 1}, {impl.Node{Kind: impl.IEnd}, 1, 1}, {impl.Node{Kind: impl.IRule, Op: 1}, 1, 1}, {impl.Node{Kind: impl.IRule, Op: 2}, 1, 1}, {impl.Node{Kind: impl.IRule, Op: 3}, 2, 2},
		{impl.Node{Kind: impl.IRange, Op: 1}, 2, 2}, {impl.Node{Kind: impl.IRange, Op: 3}, 3, 3}, {impl.Node{Kind: impl.IFunc, Text: "x"}, 1, 7}, {impl.Node{Kind: impl.SBlock}, 0, 100000}, {impl.Node{Kind: impl.PProgram}, 0, 100000},
	} {
		for _, count := range []int{0, x.least - 1, x.least, x.least + 1, x.most - 1, x.most, x.most + 1, 8, 1000} {
			n := x.n
			n.Kids = kidsOf(count)
			if got, want := impl.FieldsOk(n), count >= x.least && count <= x.most; count >= 0 && got != want && x.most < 100000 {
				t.Errorf("FieldsOk of kind %d, Op %d, Other %q with %d kids is %v", n.Kind, n.Op, n.Other, count, got)
			} else if x.most == 100000 && !got {
				t.Errorf("FieldsOk of kind %d with %d kids is false", n.Kind, count)
			}
		}
	}
}

// TestP5FieldsOfAnyKids has kids that no tree has: FieldsOk counts them only.
func TestP5FieldsOfAnyKids(t *testing.T) {
	for _, kids := range [][]int{{0, 1}, {-1, -1}, {math.MinInt, math.MaxInt}, {5, 0}} {
		if !impl.FieldsOk(impl.Node{Kind: impl.EBin, Op: impl.TkAdd, Kids: kids}) || impl.FieldsOk(impl.Node{Kind: impl.EField, Kids: kids}) {
			t.Errorf("FieldsOk of the kids %v", kids)
		}
	}
	if !impl.FieldsOk(impl.Node{Kind: impl.ENone, Kids: []int{}}) || impl.FieldsOk(impl.Node{}) {
		t.Error("FieldsOk of no kids, or of no node")
	}
}

// ruleExample is { x = 1 }.
func ruleExample() []impl.Node {
	return []impl.Node{
		{Kind: impl.EName, Text: "x"},
		{Kind: impl.ENum, Text: "1"},
		{Kind: impl.EAssign, Op: impl.TkAssign, Kids: []int{0, 1}},
		{Kind: impl.SExpr, Kids: []int{2}},
		{Kind: impl.SBlock, Kids: []int{3}},
		{Kind: impl.IRule, Op: 2, Kids: []int{4}},
		{Kind: impl.PProgram, Kids: []int{5}},
	}
}

func TestP5RuleExample(t *testing.T) {
	c := newRightCheck()
	l := ruleExample()
	c.checkParts(t, l)
	if !impl.TreeOk(l) || !impl.ProgramOk(l) || impl.ExprOk(l) || !impl.ExprOk(l[:3]) || impl.ProgramOk(l[:3]) || !impl.TreeOk(l[:6]) || impl.ExprOk(l[:6]) || impl.ProgramOk(l[:6]) {
		t.Error("{ x = 1 }")
	}
	l[5].Op = 3
	c.check(t, l)
	if impl.TreeOk(l) || impl.ProgramOk(l) || impl.ExprOk(l) || !impl.TreeOk(l[:5]) {
		t.Error("{ x = 1 } with Op 3")
	}
}

// smallest returns a valid tree of the kind that is as small as possible, or a
// single node if the kind is none.
func smallest(c rightCheck, kind int) []impl.Node {
	rule, ok := c.rules[kind]
	if !ok {
		return single(kind, "x")
	}
	n := impl.Node{Kind: kind, Text: rightTexts(rule.text)[0]}
	if rule.nameOther {
		n.Other = "y"
	}
	best := ""
	if _, ok := rule.forms[form{}]; !ok {
		n.Op = math.MaxInt
		for f := range rule.forms {
			n.Op = min(n.Op, f.op)
		}
	}
	if rule.any == "" {
		best = rule.forms[form{op: n.Op}][0]
	}
	var subtrees [][]impl.Node
	for i := range len(best) {
		kid := leafOf(best[i])
		subtrees = append(subtrees, single(kid, rightTexts(c.rules[kid].text)[0]))
	}
	return joined(n, subtrees...)
}

func TestP5SmallestTrees(t *testing.T) {
	c := newRightCheck()
	for _, kind := range nodeKindsAround() {
		l := smallest(c, kind)
		_, ok := c.rules[kind]
		if impl.TreeOk(l) != ok {
			t.Errorf("TreeOk(%s) is %v", nodesShown(l), !ok)
		}
		c.check(t, l)
		if ok {
			c.checkParts(t, l)
		}
	}
}

// TestP5EachKidInEachPlace puts each kind of kid into each place of each node.
func TestP5EachKidInEachPlace(t *testing.T) {
	c := newRightCheck()
	for _, kind := range validKinds() {
		rule := c.rules[kind]
		for f, forms := range rule.forms {
			if rule.any != "" {
				forms = upTo(rule.any, 1, 8)
			}
			n := impl.Node{Kind: kind, Op: f.op, Text: rightTexts(rule.text)[0], Other: f.other}
			if rule.nameOther {
				n.Other = "k"
			}
			for _, letters := range forms {
				c.checkPlaces(t, n, letters)
			}
		}
	}
}

// checkPlaces replaces each kid of the node by each kind of kid.
func (c rightCheck) checkPlaces(t *testing.T, n impl.Node, letters string) {
	t.Helper()
	var subtrees [][]impl.Node
	for i := range len(letters) {
		subtrees = append(subtrees, smallest(c, leafOf(letters[i])))
	}
	c.checkParts(t, joined(n, subtrees...))
	for i := range len(letters) {
		good := subtrees[i]
		for kind := -1; kind <= 47; kind++ {
			subtrees[i] = smallest(c, kind)
			l := joined(n, subtrees...)
			c.check(t, l)
			if impl.TreeOk(l) != slices.Contains(c.kinds[letters[i]], kind) {
				t.Errorf("TreeOk(%s) is %v", nodesShown(l), impl.TreeOk(l))
			}
		}
		subtrees[i] = good
	}
}

// TestP5AllKidsOfEachNode has each choice of kids of up to three kinds, and of four
// among a few.
func TestP5AllKidsOfEachNode(t *testing.T) {
	t.Parallel()
	c := newRightCheck()
	few := []int{impl.EName, impl.ENum, impl.ENone, impl.SNext, impl.SBlock, impl.SComment, impl.IBegin}
	for _, kind := range validKinds() {
		root := smallest(c, kind)
		n := root[len(root)-1]
		ops := []int{n.Op}
		if kind == impl.IRule || kind == impl.IRange {
			ops = []int{1, 2, 3}
		}
		for _, op := range ops {
			n.Op = op
			for _, kids := range kidChoices(0, len(few)-1, 4) {
				var subtrees [][]impl.Node
				for _, kid := range kids {
					subtrees = append(subtrees, smallest(c, few[kid]))
				}
				c.check(t, joined(n, subtrees...))
			}
		}
	}
}

func TestP5TreeExamples(t *testing.T) {
	c := newRightCheck()
	x, one, none := single(impl.EName, "x"), single(impl.ENum, "1"), single(impl.ENone, "")
	next, block, comment := single(impl.SNext, ""), single(impl.SBlock, ""), single(impl.SComment, "# c")
	index := joined(impl.Node{Kind: impl.EIndex, Text: "a"}, one)
	field := joined(impl.Node{Kind: impl.EField}, one)
	sum := joined(impl.Node{Kind: impl.EBin, Op: impl.TkAdd}, x, one)
	for _, example := range []struct {
		want bool
		l    []impl.Node
	}{
		{true, joined(impl.Node{Kind: impl.EPre, Op: impl.TkIncr}, x)},
		{true, joined(impl.Node{Kind: impl.EPre, Op: impl.TkDecr}, index)},
		{true, joined(impl.Node{Kind: impl.EPost, Op: impl.TkIncr}, field)},
		{false, joined(impl.Node{Kind: impl.EPre, Op: impl.TkIncr}, one)},
		{false, joined(impl.Node{Kind: impl.EPost, Op: impl.TkDecr}, sum)},
		{false, joined(impl.Node{Kind: impl.EPre, Op: impl.TkIncr}, joined(impl.Node{Kind: impl.EPre, Op: impl.TkIncr}, x))},
		{true, joined(impl.Node{Kind: impl.EAssign, Op: impl.TkModA}, field, sum)},
		{true, joined(impl.Node{Kind: impl.EAssign, Op: impl.TkModA}, index, joined(impl.Node{Kind: impl.EAssign, Op: impl.TkAssign}, x, one))},
		{false, joined(impl.Node{Kind: impl.EAssign, Op: impl.TkAssign}, sum, x)},
		{false, joined(impl.Node{Kind: impl.EAssign, Op: impl.TkAssign}, x, block)},
		{false, joined(impl.Node{Kind: impl.EBin, Op: impl.TkAdd}, x, block)},
		{false, joined(impl.Node{Kind: impl.EField}, none)},
		{false, joined(impl.Node{Kind: impl.SExpr}, block)},
		{true, joined(impl.Node{Kind: impl.SFor}, none, none, none, block)},
		{true, joined(impl.Node{Kind: impl.SFor}, sum, x, none, block)},
		{false, joined(impl.Node{Kind: impl.SFor}, block, none, none, block)},
		{false, joined(impl.Node{Kind: impl.SFor}, none, none, none, none)},
		{false, joined(impl.Node{Kind: impl.SFor}, none, next, none, block)},
		{true, joined(impl.Node{Kind: impl.SBlock}, next, block, comment)},
		{false, joined(impl.Node{Kind: impl.SBlock}, x)},
		{false, joined(impl.Node{Kind: impl.SBlock}, none)},
		{false, joined(impl.Node{Kind: impl.SIf}, x, next)},
		{false, joined(impl.Node{Kind: impl.SIf}, block, block)},
		{true, joined(impl.Node{Kind: impl.SDo}, block, x)},
		{false, joined(impl.Node{Kind: impl.SDo}, x, block)},
		{true, joined(impl.Node{Kind: impl.IFunc, Text: "f"}, x, x, block)},
		{false, joined(impl.Node{Kind: impl.IFunc, Text: "f"}, index, block)},
		{false, joined(impl.Node{Kind: impl.IFunc, Text: "f"}, block, block)},
		{false, joined(impl.Node{Kind: impl.IFunc, Text: "f"}, x)},
		{true, joined(impl.Node{Kind: impl.PProgram}, comment, joined(impl.Node{Kind: impl.IRule, Op: 1}, x))},
		{false, joined(impl.Node{Kind: impl.PProgram}, joined(impl.Node{Kind: impl.IRule, Op: 1}, block))},
		{false, joined(impl.Node{Kind: impl.PProgram}, joined(impl.Node{Kind: impl.IRule, Op: 2}, x))},
		{false, joined(impl.Node{Kind: impl.PProgram}, joined(impl.Node{Kind: impl.SExpr}, x))},
		{false, joined(impl.Node{Kind: impl.PProgram}, single(impl.PProgram, ""))},
	} {
		c.check(t, example.l)
		if impl.TreeOk(example.l) != example.want {
			t.Errorf("TreeOk(%s) is %v", nodesShown(example.l), !example.want)
		}
	}
}

// nested wraps l often.
func nested(l []impl.Node, around impl.Node, often int) []impl.Node {
	for range often {
		l = joined(around, l)
	}
	return l
}

func TestP5Depths(t *testing.T) {
	c := newRightCheck()
	x := single(impl.EName, "x")
	for depth := 1; depth <= maxDepthWanted+3; depth++ {
		for _, l := range [][]impl.Node{
			nested(x, impl.Node{Kind: impl.EUnary, Op: impl.TkNot}, depth-1),
			nested(x, impl.Node{Kind: impl.EIndex, Text: "a"}, depth-1),
			nested(single(impl.SNext, ""), impl.Node{Kind: impl.SBlock}, depth-1),
			nested(single(impl.SBlock, ""), impl.Node{Kind: impl.SBlock}, depth-1),
		} {
			if ok := depth <= maxDepthWanted; impl.TreeOk(l) != ok || impl.ExprOk(l) != (ok && l[0].Kind == impl.EName) {
				t.Errorf("TreeOk of depth %d is %v", depth, impl.TreeOk(l))
			}
			c.check(t, l)
			if l[0].Kind == impl.EName && depth > 1 {
				both := joined(impl.Node{Kind: impl.EBin, Op: impl.OpCat}, x, l[:depth-1])
				c.check(t, both)
				c.check(t, joined(impl.Node{Kind: impl.EBin, Op: impl.OpCat}, l[:depth-1], x))
				if impl.ExprOk(both) != (depth <= maxDepthWanted) {
					t.Errorf("ExprOk beside a tree of depth %d", depth-1)
				}
			}
		}
	}
	l := joined(impl.Node{Kind: impl.PProgram}, joined(impl.Node{Kind: impl.IBegin}, nested(single(impl.SBlock, ""), impl.Node{Kind: impl.SBlock}, 37)))
	if !impl.ProgramOk(l) || impl.DepthOf(l) != 40 || impl.ProgramOk(joined(impl.Node{Kind: impl.PProgram}, joined(impl.Node{Kind: impl.IBegin}, nested(single(impl.SBlock, ""), impl.Node{Kind: impl.SBlock}, 38)))) {
		t.Error("programs of depth 40 and 41")
	}
}

func TestP5InvalidTrees(t *testing.T) {
	c := newRightCheck()
	for _, l := range [][]impl.Node{
		nil, {}, ruleExample()[1:], ruleExample()[:2], append(ruleExample(), ruleExample()...),
		{{}}, {{Kind: 17}}, {{Kind: -1}}, {{Kind: math.MaxInt}}, {{Kind: impl.EName}}, {{Kind: impl.EName, Text: "if"}}, {{Kind: impl.EName, Text: "sin"}},
		{{Kind: impl.EName, Text: "x", Kids: []int{0}}}, {{Kind: impl.SBlock, Kids: []int{0}}}, {{Kind: impl.SBlock, Kids: []int{-1}}}, {{Kind: impl.PProgram, Kids: []int{5}}},
		{{Kind: impl.SNext}, {Kind: impl.SNext}, {Kind: impl.SBlock, Kids: []int{1, 0}}},
		{{Kind: impl.SNext}, {Kind: impl.SNext}, {Kind: impl.SBlock, Kids: []int{0, 0}}},
		{{Kind: impl.SNext}, {Kind: impl.SNext}, {Kind: impl.SBlock, Kids: []int{1}}},
		{{Kind: impl.SNext}, {Kind: impl.SBlock, Kids: []int{0}}, {Kind: impl.SBlock, Kids: []int{0, 1}}},
		{{Kind: impl.SNext, Op: 1}, {Kind: impl.SBlock, Kids: []int{0}}},
	} {
		c.check(t, l)
		if impl.TreeOk(l) || impl.ExprOk(l) || impl.ProgramOk(l) {
			t.Errorf("%s is valid", nodesShown(l))
		}
	}
}

// TestP5NumbersOfNodes has a block and a program with as many nodes as possible.
func TestP5NumbersOfNodes(t *testing.T) {
	for _, n := range []int{1, 2, 8, maxNodesWanted - 1, maxNodesWanted, maxNodesWanted + 1, 2 * maxNodesWanted} {
		var next, comments [][]impl.Node
		for range n - 1 {
			next = append(next, single(impl.SNext, ""))
			comments = append(comments, single(impl.SComment, "#"))
		}
		block, program := joined(impl.Node{Kind: impl.SBlock}, next...), joined(impl.Node{Kind: impl.PProgram}, comments...)
		if want := n <= maxNodesWanted; impl.TreeOk(block) != want || impl.ProgramOk(program) != want || impl.ExprOk(block) || impl.ExprOk(program) || impl.ProgramOk(block) {
			t.Errorf("%d nodes: TreeOk %v, ProgramOk %v", n, impl.TreeOk(block), impl.ProgramOk(program))
		}
	}
}

// changeNode changes a field of the node, or its number of kids.
func changeNode(random *rand.Rand, n *impl.Node) {
	switch random.IntN(6) {
	case 0, 1:
		n.Kind = random.IntN(50) - 1
	case 2:
		n.Op = random.IntN(101) - 1
	case 3:
		n.Text = strangeTexts()[random.IntN(len(strangeTexts()))]
	case 4:
		n.Other = strangeTexts()[random.IntN(len(strangeTexts()))]
	default:
		n.Kids = changedKids(random, n.Kids, 20)
	}
}

func TestP5RandomValidTrees(t *testing.T) {
	t.Parallel()
	random := rand.New(rand.NewPCG(7, 5))
	m := newNodeMaker(random)
	kinds := validKinds()
	deep, invalid := 0, 0
	for n := range 3000 {
		l := m.tree(kinds[n%len(kinds)], 1+n%50, 2+n%37)
		if !impl.TreeOk(l) {
			t.Fatalf("TreeOk(%s) is false", nodesShown(l))
		}
		m.c.checkParts(t, l)
		deep = max(deep, impl.DepthOf(l))
		for range 5 {
			changed := cloned(l)
			changeNode(random, &changed[random.IntN(len(l))])
			m.c.check(t, changed)
			if !impl.TreeOk(changed) {
				invalid++
			}
		}
	}
	if deep < 6 || invalid < 9000 || invalid > 14900 {
		t.Errorf("the deepest tree has depth %d, %d of 15000 changed trees are invalid", deep, invalid)
	}
}

func TestP5SubtreesOfLargePrograms(t *testing.T) {
	random := rand.New(rand.NewPCG(7, 6))
	m := newNodeMaker(random)
	for range 20 {
		var items [][]impl.Node
		size := 1
		for {
			kind := impl.IBegin + random.IntN(5)
			item := m.tree(kind, 30, 30)
			if size+len(item) > maxNodesWanted {
				break
			}
			size += len(item)
			items = append(items, item)
		}
		l := joined(impl.Node{Kind: impl.PProgram}, items...)
		if !impl.ProgramOk(l) {
			t.Fatalf("ProgramOk(%s) is false", nodesShown(l))
		}
		m.c.checkParts(t, l)
	}
}

func TestP5ValidTreesStay(t *testing.T) {
	random := rand.New(rand.NewPCG(7, 7))
	m := newNodeMaker(random)
	for n := range 200 {
		l := m.tree(validKinds()[n%37], 20, 10)
		if n%3 == 0 {
			changeNode(random, &l[random.IntN(len(l))])
		}
		short, unchanged := spare(l)
		impl.TreeOk(short)
		impl.ExprOk(short)
		impl.ProgramOk(short)
		for i := range short {
			impl.FieldsOk(short[i])
			impl.TreeOk(impl.Part(short, i))
		}
		if !unchanged() {
			t.Errorf("%s was changed", nodesShown(l))
		}
	}
}
