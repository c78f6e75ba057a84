package tests

import (
	"fmt"
	"math"
	"math/rand/v2"
	"slices"
	"strings"
	"testing"

	"loop.example/g01543/impl"
)

// Each test here belongs to promise 6, as far as chapter 8 goes: the level of each
// operator and of each node, by which an expression fits a position.

// levelWanted is what the document says of one level: its word, its operators of
// two operands, and the kinds of its nodes other than EBin.
type levelWanted struct {
	level int
	word  string
	ops   []int
	kinds []int
}

func levelsWanted() []levelWanted {
	return []levelWanted{
		{1, "assign", nil, []int{impl.EAssign}},
		{2, "cond", nil, []int{impl.ECond}},
		{3, "or", []int{impl.TkOr}, nil},
		{4, "and", []int{impl.TkAnd}, nil},
		{5, "in", nil, []int{impl.EIn}},
		{6, "match", []int{impl.TkMatch, impl.TkNoMatch}, nil},
		{7, "compare", []int{impl.TkLt, impl.TkLe, impl.TkEq, impl.TkNe, impl.TkGt, impl.TkGe}, nil},
		{8, "cat", []int{impl.OpCat}, nil},
		{9, "add", []int{impl.TkAdd, impl.TkSub}, nil},
		{10, "mul", []int{impl.TkMul, impl.TkDiv, impl.TkMod}, nil},
		{11, "unary", nil, []int{impl.EUnary}},
		{12, "pow", []int{impl.TkPow}, nil},
		{13, "incr", nil, []int{impl.EPre, impl.EPost}},
		{14, "field", nil, []int{impl.EField}},
		{15, "primary", nil, []int{impl.EName, impl.ENum, impl.EStr, impl.EEre, impl.EIndex, impl.ECall, impl.EBuiltin}},
	}
}

// levelCheck tells levels by the document's lists; what a map does not have is 0 or
// empty.
type levelCheck struct {
	ofOp      map[int]int
	ofKind    map[int]int
	words     map[int]string
	spellings map[int]string
}

func newLevelCheck() levelCheck {
	c := levelCheck{map[int]int{}, map[int]int{}, map[int]string{}, map[int]string{}}
	all := spellingsWanted()
	for _, row := range levelsWanted() {
		c.words[row.level] = row.word
		for _, op := range row.ops {
			c.ofOp[op] = row.level
			c.spellings[op] = all[op]
		}
		for _, kind := range row.kinds {
			c.ofKind[kind] = row.level
		}
	}
	for _, op := range otherOps() {
		c.spellings[op] = all[op]
	}
	return c
}

// otherOps has the operators that have a spelling and no level.
func otherOps() []int {
	return []int{
		impl.TkAssign, impl.TkAddA, impl.TkSubA, impl.TkMulA, impl.TkDivA, impl.TkModA, impl.TkPowA,
		impl.TkNot, impl.TkIncr, impl.TkDecr,
	}
}

func (c levelCheck) nodeWanted(n impl.Node) int {
	if n.Kind == impl.EBin {
		return c.ofOp[n.Op]
	}
	return c.ofKind[n.Kind]
}

func (c levelCheck) checkNode(t *testing.T, n impl.Node) {
	t.Helper()
	if got, want := impl.LevelOf(n), c.nodeWanted(n); got != want {
		t.Errorf("LevelOf of kind %d, Op %d, Text %q, Other %q, Kids %v is %d, want %d", n.Kind, n.Op, n.Text, n.Other, n.Kids, got, want)
	}
}

func TestP6LevelNumbers(t *testing.T) {
	levels := []int{
		impl.LvAssign, impl.LvCond, impl.LvOr, impl.LvAnd, impl.LvIn, impl.LvMatch, impl.LvCompare, impl.LvCat,
		impl.LvAdd, impl.LvMul, impl.LvUnary, impl.LvPow, impl.LvIncr, impl.LvField, impl.LvPrimary,
	}
	if want := []int{1, 2, 3, 4, 5, 6, 7, 8, 9, 10, 11, 12, 13, 14, 15}; !slices.Equal(levels, want) {
		t.Errorf("the levels are %v", levels)
	}
}

func TestP6OpLevelExamples(t *testing.T) {
	for _, c := range []struct{ op, want int }{
		{impl.TkOr, impl.LvOr}, {impl.TkAnd, impl.LvAnd}, {impl.TkMatch, impl.LvMatch}, {impl.TkNoMatch, impl.LvMatch},
		{impl.TkLt, impl.LvCompare}, {impl.TkLe, impl.LvCompare}, {impl.TkEq, impl.LvCompare}, {impl.TkNe, impl.LvCompare},
		{impl.TkGt, impl.LvCompare}, {impl.TkGe, impl.LvCompare}, {impl.OpCat, impl.LvCat}, {impl.TkAdd, impl.LvAdd},
		{impl.TkSub, impl.LvAdd}, {impl.TkMul, impl.LvMul}, {impl.TkDiv, impl.LvMul}, {impl.TkMod, impl.LvMul},
		{impl.TkPow, impl.LvPow}, {impl.TkNot, 0}, {impl.TkIn, 0}, {impl.TkIncr, 0},
		{impl.TkDecr, 0}, {impl.TkAssign, 0}, {impl.TkAddA, 0}, {impl.TkPowA, 0},
		{impl.TkQuest, 0}, {impl.TkColon, 0}, {impl.TkPipe, 0}, {impl.TkAppend, 0},
		{impl.TkDollar, 0}, {impl.TkComma, 0}, {impl.TkSemi, 0}, {impl.TkLParen, 0},
		{impl.TkRParen, 0}, {impl.TkNewline, 0}, {impl.TkName, 0}, {0, 0},
		{9, 0}, {27, 0}, {98, 0}, {100, 0},
		{-1, 0}, {-impl.TkAdd, 0}, {-impl.OpCat, 0}, {math.MinInt, 0},
		{math.MaxInt, 0},
	} {
		if got := impl.OpLevel(c.op); got != c.want {
			t.Errorf("OpLevel(%d) = %d, want %d", c.op, got, c.want)
		}
	}
}

// levelNumbers has all kinds of tokens and of nodes, OpCat, the numbers between and
// around them, and numbers whose low bits are such a kind.
func levelNumbers() []int {
	l := someKinds()
	for _, far := range []int{1 << 7, 1 << 8, 1 << 16, 1 << 31, 1 << 32, 1 << 62, math.MinInt} {
		for k := range 101 {
			l = append(l, far+k, -far+k)
		}
	}
	return l
}

func TestP6OpLevelOfEachNumber(t *testing.T) {
	c := newLevelCheck()
	count := 0
	for op := -1000; op <= 1000; op++ {
		if impl.OpLevel(op) != 0 {
			count++
		}
	}
	if count != 17 || len(c.ofOp) != 17 {
		t.Errorf("%d operators of %d have a level", count, len(c.ofOp))
	}
	for _, op := range levelNumbers() {
		if got, want := impl.OpLevel(op), c.ofOp[op]; got != want {
			t.Errorf("OpLevel(%d) = %d, want %d", op, got, want)
		}
	}
}

// TestP6TwoOperatorsOfTheSameLevel has each pair of operators: they have the same
// level if they are in the same row of the document, and otherwise that of the
// earlier row is lower.
func TestP6TwoOperatorsOfTheSameLevel(t *testing.T) {
	rows := [][]int{
		{impl.TkOr}, {impl.TkAnd}, {impl.TkMatch, impl.TkNoMatch},
		{impl.TkLt, impl.TkLe, impl.TkEq, impl.TkNe, impl.TkGt, impl.TkGe},
		{impl.OpCat}, {impl.TkAdd, impl.TkSub}, {impl.TkMul, impl.TkDiv, impl.TkMod}, {impl.TkPow},
	}
	same := 0
	for i, row := range rows {
		for j, other := range rows {
			for _, a := range row {
				for _, b := range other {
					x, y := impl.OpLevel(a), impl.OpLevel(b)
					if i == j && x != y || i < j && x >= y || i > j && x <= y {
						t.Errorf("OpLevel(%d) = %d, OpLevel(%d) = %d", a, x, b, y)
					}
					m := impl.LevelOf(impl.Node{Kind: impl.EBin, Op: a, Kids: []int{0, 1}})
					n := impl.LevelOf(impl.Node{Kind: impl.EBin, Op: b, Kids: []int{0, 1}})
					if m != x || n != y {
						t.Errorf("LevelOf of EBin with %d and %d: %d and %d, want %d and %d", a, b, m, n, x, y)
					}
					if a < b && i == j {
						same++
					}
				}
			}
		}
	}
	if same != 1+15+1+3 {
		t.Error(same, "pairs of the same level")
	}
}

func TestP6LevelOfExamples(t *testing.T) {
	for _, c := range []struct {
		n    impl.Node
		want int
	}{
		{impl.Node{Kind: impl.EName, Text: "x"}, impl.LvPrimary},
		{impl.Node{Kind: impl.ENum, Text: "1"}, impl.LvPrimary},
		{impl.Node{Kind: impl.EStr, Text: `"a"`}, impl.LvPrimary},
		{impl.Node{Kind: impl.EEre, Text: "/a/"}, impl.LvPrimary},
		{impl.Node{Kind: impl.EIndex, Text: "a", Kids: []int{0}}, impl.LvPrimary},
		{impl.Node{Kind: impl.ECall, Text: "f"}, impl.LvPrimary},
		{impl.Node{Kind: impl.EBuiltin, Text: "length"}, impl.LvPrimary},
		{impl.Node{Kind: impl.EField, Kids: []int{0}}, impl.LvField},
		{impl.Node{Kind: impl.EPre, Op: impl.TkIncr, Kids: []int{0}}, impl.LvIncr},
		{impl.Node{Kind: impl.EPre, Op: impl.TkDecr, Kids: []int{0}}, impl.LvIncr},
		{impl.Node{Kind: impl.EPost, Op: impl.TkIncr, Kids: []int{0}}, impl.LvIncr},
		{impl.Node{Kind: impl.EPost, Op: impl.TkDecr, Kids: []int{0}}, impl.LvIncr},
		{impl.Node{Kind: impl.EUnary, Op: impl.TkAdd, Kids: []int{0}}, impl.LvUnary},
		{impl.Node{Kind: impl.EUnary, Op: impl.TkSub, Kids: []int{0}}, impl.LvUnary},
		{impl.Node{Kind: impl.EUnary, Op: impl.TkNot, Kids: []int{0}}, impl.LvUnary},
		{impl.Node{Kind: impl.EBin, Op: impl.TkPow, Kids: []int{0, 1}}, impl.LvPow},
		{impl.Node{Kind: impl.EBin, Op: impl.TkSub, Kids: []int{0, 1}}, impl.LvAdd},
		{impl.Node{Kind: impl.EBin, Op: impl.OpCat, Kids: []int{0, 1}}, impl.LvCat},
		{impl.Node{Kind: impl.EBin, Op: impl.TkPow}, impl.LvPow},
		{impl.Node{Kind: impl.EBin}, 0},
		{impl.Node{Kind: impl.EBin, Op: impl.TkNot, Kids: []int{0, 1}}, 0},
		{impl.Node{Kind: impl.EBin, Op: impl.TkIn, Kids: []int{0, 1}}, 0},
		{impl.Node{Kind: impl.EBin, Op: impl.TkAssign, Kids: []int{0, 1}}, 0},
		{impl.Node{Kind: impl.EBin, Op: impl.TkPipe, Kids: []int{0, 1}}, 0},
		{impl.Node{Kind: impl.EBin, Op: -impl.TkPow, Kids: []int{0, 1}}, 0},
		{impl.Node{Kind: impl.EIn, Text: "a", Kids: []int{0}}, impl.LvIn},
		{impl.Node{Kind: impl.EIn, Text: "a", Kids: []int{0, 1}}, impl.LvIn},
		{impl.Node{Kind: impl.ECond, Kids: []int{0, 1, 2}}, impl.LvCond},
		{impl.Node{Kind: impl.EAssign, Op: impl.TkAssign, Kids: []int{0, 1}}, impl.LvAssign},
		{impl.Node{Kind: impl.EAssign, Op: impl.TkPowA, Kids: []int{0, 1}}, impl.LvAssign},
		{impl.Node{Kind: impl.ENone}, 0},
		{impl.Node{Kind: impl.SExpr, Kids: []int{0}}, 0},
		{impl.Node{Kind: impl.SNext}, 0},
		{impl.Node{Kind: impl.SBlock}, 0},
		{impl.Node{Kind: impl.SComment, Text: "# c"}, 0},
		{impl.Node{Kind: impl.IRule, Op: 1, Kids: []int{0}}, 0},
		{impl.Node{Kind: impl.IFunc, Text: "f", Kids: []int{0}}, 0},
		{impl.Node{Kind: impl.PProgram}, 0},
		{impl.Node{}, 0},
		{impl.Node{Op: impl.TkAdd}, 0},
		{impl.Node{Kind: -impl.EName, Text: "x"}, 0},
	} {
		if got := impl.LevelOf(c.n); got != c.want {
			t.Errorf("LevelOf of kind %d, Op %d is %d, want %d", c.n.Kind, c.n.Op, got, c.want)
		}
	}
}

// dressed has nodes of this kind and Op with and without texts and kids, also with
// ones that no valid node has.
func dressed(kind, op int) []impl.Node {
	return []impl.Node{
		{Kind: kind, Op: op},
		{Kind: kind, Op: op, Text: "x"},
		{Kind: kind, Op: op, Text: "if", Other: "\n"},
		{Kind: kind, Op: op, Kids: []int{0}},
		{Kind: kind, Op: op, Text: "+", Other: ">", Kids: []int{1, 0, -5, math.MaxInt, 2, 3, 4, 5}},
	}
}

func TestP6LevelOfEachKindAndOp(t *testing.T) {
	c := newLevelCheck()
	for kind := -3; kind <= 50; kind++ {
		for _, op := range levelNumbers() {
			for _, n := range dressed(kind, op) {
				c.checkNode(t, n)
			}
		}
	}
	for _, kind := range levelNumbers() {
		for op := -3; op <= 102; op++ {
			c.checkNode(t, impl.Node{Kind: kind, Op: op, Text: "x"})
		}
	}
}

// TestP6LevelOfOtherNodesIgnoresTheOp has an operator in nodes of kinds other than
// EBin.
func TestP6LevelOfOtherNodesIgnoresTheOp(t *testing.T) {
	for kind := -3; kind <= 50; kind++ {
		if kind == impl.EBin {
			continue
		}
		want := impl.LevelOf(impl.Node{Kind: kind})
		for op := -3; op <= 102; op++ {
			if got := impl.LevelOf(impl.Node{Kind: kind, Op: op}); got != want {
				t.Errorf("LevelOf of kind %d is %d, with Op %d %d", kind, want, op, got)
			}
		}
	}
}

// TestP6ValidExpressionsHaveALevel has valid nodes of each kind and random trees:
// exactly the expressions have a level, so that each of them fits some position.
func TestP6ValidExpressionsHaveALevel(t *testing.T) {
	t.Parallel()
	c := newLevelCheck()
	m := newNodeMaker(rand.New(rand.NewPCG(8, 6)))
	seen := map[int]bool{}
	for round := range 3000 {
		l := m.tree(validKinds()[round%len(validKinds())], 1+round%40, 2+round%20)
		short, unchanged := spare(l)
		for _, n := range short {
			level := impl.LevelOf(n)
			if impl.IsExpr(n.Kind) != (level >= impl.LvAssign && level <= impl.LvPrimary) || !impl.IsExpr(n.Kind) && level != 0 {
				t.Errorf("LevelOf of kind %d, Op %d is %d", n.Kind, n.Op, level)
			}
			c.checkNode(t, n)
			seen[level] = true
		}
		if !unchanged() {
			t.Errorf("%s was changed", nodesShown(l))
		}
	}
	if len(seen) != 16 {
		t.Errorf("only the levels %v occur", seen)
	}
}

func TestP6OpSpellExamples(t *testing.T) {
	for _, c := range []struct {
		op   int
		want string
	}{
		{impl.TkOr, "||"}, {impl.TkAnd, "&&"}, {impl.TkMatch, "~"}, {impl.TkNoMatch, "!~"},
		{impl.TkLt, "<"}, {impl.TkLe, "<="}, {impl.TkEq, "=="}, {impl.TkNe, "!="},
		{impl.TkGt, ">"}, {impl.TkGe, ">="}, {impl.TkAdd, "+"}, {impl.TkSub, "-"},
		{impl.TkMul, "*"}, {impl.TkDiv, "/"}, {impl.TkMod, "%"}, {impl.TkPow, "^"},
		{impl.TkAssign, "="}, {impl.TkAddA, "+="}, {impl.TkSubA, "-="}, {impl.TkMulA, "*="},
		{impl.TkDivA, "/="}, {impl.TkModA, "%="}, {impl.TkPowA, "^="}, {impl.TkNot, "!"},
		{impl.TkIncr, "++"}, {impl.TkDecr, "--"}, {impl.OpCat, ""}, {impl.TkComma, ""},
		{impl.TkSemi, ""}, {impl.TkAppend, ""}, {impl.TkPipe, ""}, {impl.TkQuest, ""},
		{impl.TkColon, ""}, {impl.TkDollar, ""}, {impl.TkLBrace, ""}, {impl.TkRBrace, ""},
		{impl.TkLParen, ""}, {impl.TkRParen, ""}, {impl.TkLBrack, ""}, {impl.TkRBrack, ""},
		{impl.TkIn, ""}, {impl.TkBegin, ""}, {impl.TkPrintf, ""}, {impl.TkNewline, ""},
		{impl.TkComment, ""}, {impl.TkNum, ""}, {impl.TkName, ""}, {impl.TkBuiltin, ""},
		{0, ""}, {-1, ""}, {69, ""}, {-impl.TkAdd, ""},
		{math.MinInt, ""}, {math.MaxInt, ""},
	} {
		if got := impl.OpSpell(c.op); got != c.want {
			t.Errorf("OpSpell(%d) = %q, want %q", c.op, got, c.want)
		}
	}
}

func TestP6OpSpellOfEachNumber(t *testing.T) {
	c := newLevelCheck()
	count := 0
	for _, op := range levelNumbers() {
		if got, want := impl.OpSpell(op), c.spellings[op]; got != want {
			t.Errorf("OpSpell(%d) = %q, want %q", op, got, want)
		}
	}
	for op := -1000; op <= 1000; op++ {
		if s := impl.OpSpell(op); s != "" {
			count++
			if kind, length := impl.OpAt(s, 0); kind != op || length != len(s) || s != impl.SpellOf(op) {
				t.Errorf("OpSpell(%d) = %q, which is the operator %d", op, s, kind)
			}
		}
	}
	if count != 26 {
		t.Error(count, "operators have a spelling")
	}
}

// TestP6OperatorsOfNodesAreSpelled has the nodes of the kinds that are printed with
// their Op: each valid Op but OpCat has a spelling.
func TestP6OperatorsOfNodesAreSpelled(t *testing.T) {
	for _, kind := range []int{impl.EPre, impl.EPost, impl.EUnary, impl.EBin, impl.EAssign} {
		forms := nodeRules()[kind].forms
		if len(forms) < 2 {
			t.Errorf("kind %d has %d Ops", kind, len(forms))
		}
		for f := range forms {
			if got := impl.OpSpell(f.op); got != impl.SpellOf(f.op) || (got == "") != (f.op == impl.OpCat) {
				t.Errorf("OpSpell(%d), the Op of a node of kind %d, is %q", f.op, kind, got)
			}
		}
	}
}

func TestP6LevelWords(t *testing.T) {
	words := strings.Fields("assign cond or and in match compare cat add mul unary pow incr field primary")
	if len(words) != impl.LvPrimary {
		t.Fatal(len(words), "words")
	}
	for i, want := range words {
		if got := impl.LevelWord(impl.LvAssign + i); got != want {
			t.Errorf("LevelWord(%d) = %q, want %q", impl.LvAssign+i, got, want)
		}
	}
	for _, c := range []struct {
		level int
		want  string
	}{
		{impl.LvMul, "mul"}, {impl.LvAssign, "assign"}, {impl.LvIn, "in"}, {impl.LvIncr, "incr"}, {impl.LvField, "field"}, {impl.LvPrimary, "primary"},
		{0, ""}, {-1, ""}, {-impl.LvPrimary, ""}, {impl.LvPrimary + 1, ""}, {impl.OpCat, ""}, {256 + impl.LvMul, ""}, {1<<32 + impl.LvMul, ""}, {math.MinInt, ""}, {math.MaxInt, ""},
	} {
		if got := impl.LevelWord(c.level); got != c.want {
			t.Errorf("LevelWord(%d) = %q, want %q", c.level, got, c.want)
		}
	}
}

func TestP6LevelWordOfEachNumber(t *testing.T) {
	c := newLevelCheck()
	for _, level := range levelNumbers() {
		if got, want := impl.LevelWord(level), c.words[level]; got != want {
			t.Errorf("LevelWord(%d) = %q, want %q", level, got, want)
		}
	}
}

// TestP6LevelsAreTheSameEachTime calls all functions twice, in another order.
func TestP6LevelsAreTheSameEachTime(t *testing.T) {
	shown := func(n int) string {
		bin := impl.LevelOf(impl.Node{Kind: impl.EBin, Op: n})
		return fmt.Sprint(impl.OpLevel(n), bin, impl.LevelOf(impl.Node{Kind: n}), impl.OpSpell(n), impl.LevelWord(n))
	}
	first := map[int]string{}
	for n := -5; n <= 105; n++ {
		first[n] = shown(n)
	}
	for n := 105; n >= -5; n-- {
		if got := shown(n); got != first[n] {
			t.Errorf("of %d: %s, and then %s", n, first[n], got)
		}
	}
}
