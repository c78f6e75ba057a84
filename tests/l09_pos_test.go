package tests

import (
	"fmt"
	"math"
	"math/rand/v2"
	"slices"
	"testing"

	"loop.example/g01543/impl"
)

// Each test here belongs to promise 6, as far as chapter 9 goes: what fits a
// position fits Top, KidPos of a valid position is valid, and what a position
// forbids occurs only inside brackets if the kids stand at KidPos. (That ExprTokens
// puts them there belongs to chapter 10.)

// binWanted is what the document says of the operands of one level of EBin.
type binWanted struct {
	ops         []int
	left, right int
}

func binsWanted() []binWanted {
	return []binWanted{
		{[]int{impl.TkOr}, impl.LvOr, impl.LvAnd},
		{[]int{impl.TkAnd}, impl.LvAnd, impl.LvIn},
		{[]int{impl.TkMatch, impl.TkNoMatch}, impl.LvCompare, impl.LvCompare},
		{[]int{impl.TkLt, impl.TkLe, impl.TkEq, impl.TkNe, impl.TkGt, impl.TkGe}, impl.LvCat, impl.LvCat},
		{[]int{impl.OpCat}, impl.LvCat, impl.LvAdd},
		{[]int{impl.TkAdd, impl.TkSub}, impl.LvAdd, impl.LvMul},
		{[]int{impl.TkMul, impl.TkDiv, impl.TkMod}, impl.LvMul, impl.LvUnary},
		{[]int{impl.TkPow}, impl.LvIncr, impl.LvUnary},
	}
}

// posCheck tells positions by the document's lists.
type posCheck struct {
	levels levelCheck
	ofKind map[int][]int // the levels of the kids of each kind whose kids are not at Top
	ofOp   map[int][]int // the same for EBin, by Op
}

func newPosCheck() posCheck {
	c := posCheck{newLevelCheck(), map[int][]int{
		impl.EAssign: {impl.LvField, impl.LvAssign},
		impl.ECond:   {impl.LvOr, impl.LvCond, impl.LvCond},
		impl.EIn:     {impl.LvIn},
		impl.EUnary:  {impl.LvUnary},
		impl.EPre:    {impl.LvField},
		impl.EPost:   {impl.LvField},
		impl.EField:  {impl.LvField},
	}, map[int][]int{}}
	for _, row := range binsWanted() {
		for _, op := range row.ops {
			c.ofOp[op] = []int{row.left, row.right}
		}
	}
	return c
}

func posWanted(p impl.Pos) bool {
	if p.Dollar && p.Level != 14 {
		return false
	}
	return slices.Contains([]int{1, 2, 3, 4, 5, 6, 7, 8, 9, 10, 11, 12, 13, 14, 15}, p.Level)
}

// signed has the kinds that NoSign forbids.
func signed(kind int) bool {
	return slices.Contains([]int{impl.EUnary, impl.EPre, impl.EEre}, kind)
}

func (c posCheck) fitsWanted(n impl.Node, p impl.Pos) bool {
	level := c.levels.nodeWanted(n)
	in := p.NoIn && n.Kind == impl.EIn
	gt := p.NoGt && n.Kind == impl.EBin && n.Op == impl.TkGt
	sign := p.NoSign && signed(n.Kind)
	if !posWanted(p) || level == 0 || in || gt || sign {
		return false
	}
	return p.Dollar && n.Kind == impl.EPre || level >= p.Level
}

// kidWanted takes the sentence on kids beyond those of a valid tree as one on their
// level: such a kid of a concatenation has no restriction NoSign, since it is not
// the second one, and such a kid of EField has Dollar.
func (c posCheck) kidWanted(n impl.Node, k int, p impl.Pos) impl.Pos {
	if !posWanted(p) || k < 0 || k >= len(n.Kids) || c.levels.nodeWanted(n) == 0 {
		return impl.Pos{}
	}
	levels := c.ofKind[n.Kind]
	if n.Kind == impl.EBin {
		levels = c.ofOp[n.Op]
	}
	if levels == nil || n.Kind == impl.EIn && len(n.Kids) > 1 {
		return impl.Pos{Level: 1}
	}
	want := impl.Pos{Level: levels[min(k, len(levels)-1)], Dollar: n.Kind == impl.EField, NoIn: p.NoIn, NoGt: p.NoGt}
	switch {
	case k == 0 && !slices.Contains([]int{impl.EUnary, impl.EPre, impl.EPost, impl.EField}, n.Kind):
		want.NoSign = p.NoSign
	case k == 1 && n.Kind == impl.EBin && n.Op == impl.OpCat:
		want.NoSign = true
	}
	return want
}

func headShown(n impl.Node) string {
	return fmt.Sprintf("kind %d, Op %d, %d kids", n.Kind, n.Op, len(n.Kids))
}

func (c posCheck) checkFits(t *testing.T, n impl.Node, p impl.Pos) {
	t.Helper()
	if got, want := impl.Fits(n, p), c.fitsWanted(n, p); got != want {
		t.Errorf("Fits of %s at %+v is %v", headShown(n), p, got)
	}
}

func (c posCheck) checkKid(t *testing.T, n impl.Node, k int, p impl.Pos) {
	t.Helper()
	if got, want := impl.KidPos(n, k, p), c.kidWanted(n, k, p); got != want {
		t.Errorf("KidPos of %s for kid %d at %+v is %+v, want %+v", headShown(n), k, p, got, want)
	}
}

// positionsAt has a level with every combination of the other fields.
func positionsAt(level int) []impl.Pos {
	var l []impl.Pos
	for bits := range 16 {
		l = append(l, impl.Pos{Level: level, Dollar: bits&1 != 0, NoIn: bits&2 != 0, NoGt: bits&4 != 0, NoSign: bits&8 != 0})
	}
	return l
}

// validPositions has all of them.
func validPositions() []impl.Pos {
	var l []impl.Pos
	for level := 1; level <= 15; level++ {
		for _, p := range positionsAt(level) {
			if posWanted(p) {
				l = append(l, p)
			}
		}
	}
	return l
}

// invalidPositions has those with Dollar at a valid level, and those at levels
// below, above and far from the valid ones.
func invalidPositions() []impl.Pos {
	var l []impl.Pos
	for _, level := range []int{math.MinInt, -1 << 32, -14, -1, 0, 1, 2, 8, 13, 14, 15, 16, 17, 256 + 14, 1<<32 + 1, 1<<32 + 14, math.MaxInt} {
		for _, p := range positionsAt(level) {
			if !posWanted(p) {
				l = append(l, p)
			}
		}
	}
	return l
}

func somePositions() []impl.Pos {
	return append(validPositions(), invalidPositions()...)
}

func TestP6TopIsThePositionWithoutRestrictions(t *testing.T) {
	if top := impl.Top(); top != (impl.Pos{Level: impl.LvAssign}) || !impl.PosOk(top) {
		t.Errorf("Top is %+v", top)
	}
}

func TestP6PosOkExamples(t *testing.T) {
	for _, c := range []struct {
		p    impl.Pos
		want bool
	}{
		{impl.Pos{}, false},
		{impl.Pos{NoIn: true, NoGt: true, NoSign: true}, false},
		{impl.Pos{Dollar: true}, false},
		{impl.Pos{Level: 1}, true},
		{impl.Pos{Level: 2, Dollar: true}, false},
		{impl.Pos{Level: 2}, true},
		{impl.Pos{Level: impl.LvField}, true},
		{impl.Pos{Level: impl.LvField, Dollar: true}, true},
		{impl.Pos{Level: impl.LvField, Dollar: true, NoIn: true, NoGt: true, NoSign: true}, true},
		{impl.Pos{Level: impl.LvIncr, Dollar: true}, false},
		{impl.Pos{Level: impl.LvPrimary, Dollar: true}, false},
		{impl.Pos{Level: impl.LvPrimary}, true},
		{impl.Pos{Level: impl.LvPrimary + 1}, false},
		{impl.Pos{Level: -1}, false},
		{impl.Pos{Level: -impl.LvField, Dollar: true}, false},
		{impl.Pos{Level: math.MaxInt}, false},
		{impl.Pos{Level: math.MinInt, NoSign: true}, false},
	} {
		if got := impl.PosOk(c.p); got != c.want {
			t.Errorf("PosOk(%+v) is %v", c.p, got)
		}
	}
}

func TestP6PosOkOfEachLevel(t *testing.T) {
	valid := 0
	for _, level := range levelNumbers() {
		for _, p := range positionsAt(level) {
			if got := impl.PosOk(p); got != posWanted(p) {
				t.Errorf("PosOk(%+v) is %v", p, got)
			}
		}
	}
	for level := -1000; level <= 1000; level++ {
		for _, p := range positionsAt(level) {
			if impl.PosOk(p) {
				valid++
			}
		}
	}
	if valid != 15*8+8 || len(validPositions()) != valid {
		t.Error(valid, "valid positions")
	}
}

func TestP6FitsExamples(t *testing.T) {
	bin := func(op int) impl.Node { return impl.Node{Kind: impl.EBin, Op: op, Kids: []int{0, 1}} }
	pre := impl.Node{Kind: impl.EPre, Op: impl.TkIncr, Kids: []int{0}}
	post := impl.Node{Kind: impl.EPost, Op: impl.TkIncr, Kids: []int{0}}
	unary := impl.Node{Kind: impl.EUnary, Op: impl.TkSub, Kids: []int{0}}
	in := impl.Node{Kind: impl.EIn, Text: "a", Kids: []int{0}}
	ere := impl.Node{Kind: impl.EEre, Text: "/a/"}
	dollar := impl.Pos{Level: impl.LvField, Dollar: true}
	for _, c := range []struct {
		n    impl.Node
		p    impl.Pos
		want bool
	}{
		{bin(impl.TkAdd), impl.Top(), true},
		{bin(impl.TkAdd), impl.Pos{Level: impl.LvMul}, false},
		{bin(impl.TkAdd), impl.Pos{Level: impl.LvAdd}, true},
		{bin(impl.TkAdd), impl.Pos{}, false},
		{impl.Node{Kind: impl.SNext}, impl.Top(), false},
		{impl.Node{Kind: impl.ENone}, impl.Top(), false},
		{impl.Node{}, impl.Top(), false},
		{impl.Node{}, impl.Pos{}, false},
		{bin(impl.TkNot), impl.Top(), false},
		{bin(0), impl.Top(), false},
		{in, impl.Pos{Level: 1, NoIn: true}, false},
		{impl.Node{Kind: impl.EIn}, impl.Pos{Level: 1, NoIn: true}, false},
		{impl.Node{Kind: impl.EIn, Text: "a", Kids: []int{0, 1}}, impl.Pos{Level: 1, NoIn: true}, false},
		{in, impl.Pos{Level: impl.LvIn, NoGt: true, NoSign: true}, true},
		{in, impl.Pos{Level: impl.LvMatch}, false},
		{bin(impl.TkGt), impl.Pos{Level: 1, NoGt: true}, false},
		{bin(impl.TkGt), impl.Pos{Level: 1, NoIn: true, NoSign: true}, true},
		{bin(impl.TkGt), impl.Pos{Level: impl.LvCat}, false},
		{bin(impl.TkLt), impl.Pos{Level: 1, NoGt: true}, true},
		{bin(impl.TkGe), impl.Pos{Level: 1, NoGt: true}, true},
		{bin(impl.TkLe), impl.Pos{Level: impl.LvCompare, NoGt: true}, true},
		{impl.Node{Kind: impl.ECond, Op: impl.TkGt}, impl.Pos{Level: 1, NoGt: true}, true},
		{ere, impl.Pos{Level: 1, NoSign: true}, false},
		{ere, impl.Pos{Level: impl.LvPrimary}, true},
		{unary, impl.Pos{Level: 1, NoSign: true}, false},
		{unary, impl.Pos{Level: impl.LvUnary, NoIn: true, NoGt: true}, true},
		{pre, impl.Pos{Level: 1, NoSign: true}, false},
		{pre, impl.Pos{Level: impl.LvIncr}, true},
		{post, impl.Pos{Level: 1, NoSign: true}, true},
		{post, impl.Pos{Level: impl.LvIncr, NoSign: true}, true},
		{pre, dollar, true},
		{post, dollar, false},
		{unary, dollar, false},
		{pre, impl.Pos{Level: impl.LvField}, false},
		{pre, impl.Pos{Level: impl.LvField, Dollar: true, NoIn: true, NoGt: true}, true},
		{pre, impl.Pos{Level: impl.LvField, Dollar: true, NoSign: true}, false},
		{pre, impl.Pos{Level: impl.LvPrimary, Dollar: true}, false},
		{ere, dollar, true},
		{ere, impl.Pos{Level: impl.LvField, Dollar: true, NoSign: true}, false},
		{impl.Node{Kind: impl.EField, Kids: []int{0}}, dollar, true},
		{impl.Node{Kind: impl.EField, Kids: []int{0}}, impl.Pos{Level: impl.LvPrimary}, false},
		{impl.Node{Kind: impl.EName, Text: "x"}, impl.Pos{Level: impl.LvPrimary, NoIn: true, NoGt: true, NoSign: true}, true},
		{impl.Node{Kind: impl.EName, Text: "x"}, impl.Pos{Level: impl.LvPrimary + 1}, false},
		{impl.Node{Kind: impl.EAssign, Op: impl.TkAssign, Kids: []int{0, 1}}, impl.Top(), true},
		{impl.Node{Kind: impl.EAssign, Op: impl.TkAssign, Kids: []int{0, 1}}, impl.Pos{Level: impl.LvCond}, false},
	} {
		if got := impl.Fits(c.n, c.p); got != c.want {
			t.Errorf("Fits of %s at %+v is %v", headShown(c.n), c.p, got)
		}
	}
}

func TestP6FitsOfEachNodeAndPosition(t *testing.T) {
	t.Parallel()
	c := newPosCheck()
	positions := somePositions()
	for kind := -3; kind <= 50; kind++ {
		for op := -3; op <= 102; op++ {
			n := impl.Node{Kind: kind, Op: op, Text: "x", Kids: []int{0}}
			for _, p := range positions {
				c.checkFits(t, n, p)
			}
		}
	}
	for _, kind := range levelNumbers() {
		for _, p := range []impl.Pos{impl.Top(), {Level: impl.LvField, Dollar: true}, {}} {
			c.checkFits(t, impl.Node{Kind: kind, Op: kind}, p)
			c.checkFits(t, impl.Node{Kind: impl.EBin, Op: kind}, p)
		}
	}
}

// TestP6FitsIgnoresTextsAndKids has nodes with fields that no valid node has.
func TestP6FitsIgnoresTextsAndKids(t *testing.T) {
	c := newPosCheck()
	for kind := -3; kind <= 50; kind++ {
		for _, op := range []int{0, impl.TkIncr, impl.TkSub, impl.TkGt, impl.TkPow, impl.OpCat} {
			for _, n := range dressed(kind, op) {
				for _, p := range somePositions() {
					c.checkFits(t, n, p)
				}
			}
		}
	}
}

// expressionHeads has a node for each kind of expression and each Op that it may
// have, with as many kids as a valid one has at most.
func expressionHeads() []impl.Node {
	var l []impl.Node
	for _, kind := range validKinds() {
		if !impl.IsExpr(kind) {
			continue
		}
		for f, kids := range nodeRules()[kind].forms {
			l = append(l, impl.Node{Kind: kind, Op: f.op, Kids: kidsOf(len(kids[len(kids)-1]))})
		}
	}
	return l
}

// TestP6FitsByLevel has each expression at the levels below, at and above its own.
func TestP6FitsByLevel(t *testing.T) {
	c := newPosCheck()
	heads := expressionHeads()
	if len(heads) != 8+2+2+3+17+1+1+7 {
		t.Error(len(heads), "expressions")
	}
	for _, n := range heads {
		level := c.levels.nodeWanted(n)
		for at := impl.LvAssign; at <= impl.LvPrimary; at++ {
			if got := impl.Fits(n, impl.Pos{Level: at}); got != (at <= level) {
				t.Errorf("Fits of %s, of level %d, at level %d is %v", headShown(n), level, at, got)
			}
		}
	}
}

// freer has the positions with fewer restrictions or a lower level than a valid one.
// That after $ has no lower level.
func freer(p impl.Pos) []impl.Pos {
	in, gt, sign, bare := p, p, p, impl.Pos{Level: p.Level, Dollar: p.Dollar}
	in.NoIn, gt.NoGt, sign.NoSign = false, false, false
	l := []impl.Pos{in, gt, sign, bare}
	if !p.Dollar {
		for lower := p; lower.Level > 1; {
			lower.Level--
			l = append(l, lower)
		}
	}
	return l
}

func checkFitsFreer(t *testing.T, n impl.Node, p impl.Pos) {
	t.Helper()
	if !impl.Fits(n, p) {
		return
	}
	for _, q := range append(freer(p), impl.Top()) {
		if !impl.PosOk(q) || !impl.Fits(n, q) {
			t.Errorf("%s fits %+v, but not %+v", headShown(n), p, q)
		}
	}
}

func TestP6WhatFitsAPositionFitsTop(t *testing.T) {
	t.Parallel()
	for _, n := range expressionHeads() {
		if !impl.Fits(n, impl.Top()) {
			t.Errorf("%s does not fit Top", headShown(n))
		}
	}
	for kind := -3; kind <= 50; kind++ {
		for op := -3; op <= 102; op++ {
			for _, p := range somePositions() {
				checkFitsFreer(t, impl.Node{Kind: kind, Op: op}, p)
			}
		}
	}
}

// kidIndices has those of count kids and many that are none.
func kidIndices(count int) []int {
	l := []int{math.MinInt, math.MinInt + 1, -1 << 32, math.MaxInt - 1, math.MaxInt, 1 << 32, 1<<32 + 1, 1000}
	for k := -2; k <= count+2; k++ {
		l = append(l, k)
	}
	return l
}

func TestP6KidPosExamples(t *testing.T) {
	node := func(kind, op, kids int) impl.Node { return impl.Node{Kind: kind, Op: op, Kids: kidsOf(kids)} }
	all := impl.Pos{Level: impl.LvCond, NoIn: true, NoGt: true, NoSign: true}
	dollar := impl.Pos{Level: impl.LvField, Dollar: true}
	cat := impl.Pos{Level: impl.LvCat, NoGt: true}
	for _, c := range []struct {
		n    impl.Node
		k    int
		p    impl.Pos
		want impl.Pos
	}{
		{node(impl.EBin, impl.OpCat, 2), 0, cat, cat},
		{node(impl.EBin, impl.OpCat, 2), 1, cat, impl.Pos{Level: impl.LvAdd, NoGt: true, NoSign: true}},
		{node(impl.EBin, impl.OpCat, 2), 1, all, impl.Pos{Level: impl.LvAdd, NoIn: true, NoGt: true, NoSign: true}},
		{node(impl.EBin, impl.OpCat, 2), 0, impl.Top(), impl.Pos{Level: impl.LvCat}},
		{node(impl.EBin, impl.TkAdd, 2), 0, impl.Top(), impl.Pos{Level: impl.LvAdd}},
		{node(impl.EBin, impl.TkAdd, 2), 1, impl.Top(), impl.Pos{Level: impl.LvMul}},
		{node(impl.EBin, impl.TkAdd, 2), 2, impl.Top(), impl.Pos{}},
		{node(impl.EBin, impl.TkAdd, 2), -1, impl.Top(), impl.Pos{}},
		{node(impl.EBin, impl.TkAdd, 2), 0, impl.Pos{}, impl.Pos{}},
		{node(impl.EBin, impl.TkAdd, 2), 1, all, impl.Pos{Level: impl.LvMul, NoIn: true, NoGt: true}},
		{node(impl.EBin, impl.TkNot, 2), 0, impl.Top(), impl.Pos{}},
		{node(impl.EBin, impl.TkPow, 2), 0, all, impl.Pos{Level: impl.LvIncr, NoIn: true, NoGt: true, NoSign: true}},
		{node(impl.EBin, impl.TkPow, 2), 1, all, impl.Pos{Level: impl.LvUnary, NoIn: true, NoGt: true}},
		{node(impl.EBin, impl.TkMatch, 2), 1, impl.Top(), impl.Pos{Level: impl.LvCompare}},
		{node(impl.EBin, impl.TkGt, 2), 0, impl.Pos{Level: 1, NoGt: true}, impl.Pos{Level: impl.LvCat, NoGt: true}},
		{node(impl.EAssign, impl.TkAssign, 2), 0, all, impl.Pos{Level: impl.LvField, NoIn: true, NoGt: true, NoSign: true}},
		{node(impl.EAssign, impl.TkPowA, 2), 1, all, impl.Pos{Level: impl.LvAssign, NoIn: true, NoGt: true}},
		{node(impl.ECond, 0, 3), 0, all, impl.Pos{Level: impl.LvOr, NoIn: true, NoGt: true, NoSign: true}},
		{node(impl.ECond, 0, 3), 1, all, impl.Pos{Level: impl.LvCond, NoIn: true, NoGt: true}},
		{node(impl.ECond, 0, 3), 2, all, impl.Pos{Level: impl.LvCond, NoIn: true, NoGt: true}},
		{node(impl.EIn, 0, 1), 0, all, impl.Pos{Level: impl.LvIn, NoIn: true, NoGt: true, NoSign: true}},
		{node(impl.EIn, 0, 2), 0, all, impl.Top()},
		{node(impl.EIn, 0, 2), 1, all, impl.Top()},
		{node(impl.EIn, 0, 2), 2, all, impl.Pos{}},
		{node(impl.EUnary, impl.TkNot, 1), 0, all, impl.Pos{Level: impl.LvUnary, NoIn: true, NoGt: true}},
		{node(impl.EPre, impl.TkIncr, 1), 0, all, impl.Pos{Level: impl.LvField, NoIn: true, NoGt: true}},
		{node(impl.EPost, impl.TkDecr, 1), 0, all, impl.Pos{Level: impl.LvField, NoIn: true, NoGt: true}},
		{node(impl.EField, 0, 1), 0, all, impl.Pos{Level: impl.LvField, Dollar: true, NoIn: true, NoGt: true}},
		{node(impl.EField, 0, 1), 0, dollar, dollar},
		{node(impl.EPre, impl.TkIncr, 1), 0, dollar, impl.Pos{Level: impl.LvField}},
		{node(impl.EIndex, 0, 2), 1, all, impl.Top()},
		{node(impl.ECall, 0, 1), 0, cat, impl.Top()},
		{node(impl.ECall, 0, 0), 0, cat, impl.Pos{}},
		{node(impl.EBuiltin, 0, 3), 2, dollar, impl.Top()},
		{node(impl.EName, 0, 1), 0, all, impl.Top()},
		{node(impl.EName, 0, 0), 0, all, impl.Pos{}},
		{node(impl.ENum, 0, 1), 0, all, impl.Top()},
		{node(impl.EStr, 0, 2), 1, all, impl.Top()},
		{node(impl.EEre, 0, 1), 0, all, impl.Top()},
		{node(impl.EIndex, 0, 1), 0, impl.Pos{Level: 16}, impl.Pos{}},
		{node(impl.EIndex, 0, 1), 0, impl.Pos{Level: impl.LvPrimary, Dollar: true}, impl.Pos{}},
		{node(impl.SExpr, 0, 1), 0, impl.Top(), impl.Pos{}},
		{node(impl.ENone, 0, 1), 0, impl.Top(), impl.Pos{}},
		{node(impl.PProgram, 0, 1), 0, impl.Top(), impl.Pos{}},
		{node(0, impl.TkAdd, 2), 0, impl.Top(), impl.Pos{}},
	} {
		if got := impl.KidPos(c.n, c.k, c.p); got != c.want {
			t.Errorf("KidPos of %s for kid %d at %+v is %+v, want %+v", headShown(c.n), c.k, c.p, got, c.want)
		}
	}
}

// TestP6KidPosOfEachNode has each kind with each number of kids, from none to more
// than a valid node has, each kid and each position.
func TestP6KidPosOfEachNode(t *testing.T) {
	t.Parallel()
	c := newPosCheck()
	var heads []impl.Node
	for kind := -3; kind <= 50; kind++ {
		for _, op := range []int{0, impl.TkGt, impl.OpCat} {
			heads = append(heads, impl.Node{Kind: kind, Op: op})
		}
	}
	for op := -3; op <= 102; op++ {
		heads = append(heads, impl.Node{Kind: impl.EBin, Op: op})
	}
	for count := range maxArgsWanted + 4 {
		kids := kidsOf(count)
		for _, n := range heads {
			n.Kids = kids
			for _, k := range kidIndices(count) {
				for _, p := range validPositions() {
					c.checkKid(t, n, k, p)
				}
			}
		}
	}
}

func TestP6KidPosAtInvalidPositions(t *testing.T) {
	for count := range maxArgsWanted + 2 {
		for _, n := range expressionHeads() {
			n.Kids = kidsOf(count)
			for _, k := range kidIndices(count) {
				for _, p := range invalidPositions() {
					if got := impl.KidPos(n, k, p); got != (impl.Pos{}) {
						t.Errorf("KidPos of %s for kid %d at %+v is %+v", headShown(n), k, p, got)
					}
				}
			}
		}
	}
}

// TestP6KidPosIgnoresTheKidsThemselves has kids that no list of nodes has.
func TestP6KidPosIgnoresTheKidsThemselves(t *testing.T) {
	c := newPosCheck()
	for _, kids := range [][]int{{-1, -1}, {math.MinInt, math.MaxInt}, {5, 0}, {0, 0}, {1, 0, 2}} {
		for _, n := range expressionHeads() {
			n.Kids, n.Text, n.Other = kids, "if", "\n"
			for k := range kids {
				for _, p := range validPositions() {
					c.checkKid(t, n, k, p)
				}
			}
		}
	}
}

func TestP6KidPosOfAValidPositionIsValid(t *testing.T) {
	for _, p := range validPositions() {
		for _, n := range expressionHeads() {
			for k := range n.Kids {
				if q := impl.KidPos(n, k, p); !impl.PosOk(q) || q.Dollar != (n.Kind == impl.EField) {
					t.Errorf("KidPos of %s for kid %d at %+v is %+v", headShown(n), k, p, q)
				}
			}
		}
	}
}

// TestP6RandomTreesAtRandomPositions has the nodes of random valid trees, of all
// kinds, at random valid positions.
func TestP6RandomTreesAtRandomPositions(t *testing.T) {
	c := newPosCheck()
	random := rand.New(rand.NewPCG(9, 6))
	m := newNodeMaker(random)
	positions := validPositions()
	fit, kids := 0, 0
	for round := range 2000 {
		l := m.tree(validKinds()[round%len(validKinds())], 1+round%40, 2+round%20)
		short, unchanged := spare(l)
		for _, n := range short {
			p := positions[random.IntN(len(positions))]
			c.checkFits(t, n, p)
			checkFitsFreer(t, n, p)
			if impl.Fits(n, p) {
				fit++
			}
			for k := range n.Kids {
				q := impl.KidPos(n, k, p)
				c.checkKid(t, n, k, p)
				if impl.PosOk(q) != impl.IsExpr(n.Kind) {
					t.Errorf("KidPos of %s for kid %d at %+v is %+v", headShown(n), k, p, q)
				}
				kids++
			}
		}
		if !unchanged() {
			t.Errorf("%s was changed", nodesShown(l))
		}
	}
	if fit < 1000 || kids < 10000 {
		t.Errorf("only %d nodes fit, of %d kids", fit, kids)
	}
}

// kindWriter writes the kinds of the tokens of an expression, with parentheses
// where a kid does not fit its position.
type kindWriter struct {
	l     []impl.Node
	kinds []int
}

func (w *kindWriter) add(kinds ...int) {
	w.kinds = append(w.kinds, kinds...)
}

// at writes the subtree of node i at a position.
func (w *kindWriter) at(i int, p impl.Pos) {
	if impl.Fits(w.l[i], p) {
		w.node(i, p)
		return
	}
	w.add(impl.TkLParen)
	w.node(i, impl.Top())
	w.add(impl.TkRParen)
}

func (w *kindWriter) kid(i, k int, p impl.Pos) {
	w.at(w.l[i].Kids[k], impl.KidPos(w.l[i], k, p))
}

// target writes the first kid, which is never in parentheses.
func (w *kindWriter) target(i int, p impl.Pos) {
	w.node(w.l[i].Kids[0], impl.KidPos(w.l[i], 0, p))
}

func (w *kindWriter) list(i int, first, last int, p impl.Pos) {
	w.add(first)
	for k := range w.l[i].Kids {
		if k > 0 {
			w.add(impl.TkComma)
		}
		w.kid(i, k, p)
	}
	w.add(last)
}

// node writes the subtree of node i, which stands at p without parentheses.
func (w *kindWriter) node(i int, p impl.Pos) {
	n := w.l[i]
	switch n.Kind {
	case impl.EName, impl.ENum, impl.EStr, impl.EEre:
		w.add(map[int]int{impl.EName: impl.TkName, impl.ENum: impl.TkNum, impl.EStr: impl.TkStr, impl.EEre: impl.TkEre}[n.Kind])
	case impl.EIndex:
		w.add(impl.TkName)
		w.list(i, impl.TkLBrack, impl.TkRBrack, p)
	case impl.ECall:
		w.add(impl.TkFunc)
		w.list(i, impl.TkLParen, impl.TkRParen, p)
	case impl.EBuiltin:
		w.add(impl.TkBuiltin)
		w.list(i, impl.TkLParen, impl.TkRParen, p)
	case impl.EIn:
		if len(n.Kids) > 1 {
			w.list(i, impl.TkLParen, impl.TkRParen, p)
		} else {
			w.kid(i, 0, p)
		}
		w.add(impl.TkIn, impl.TkName)
	case impl.EField:
		w.add(impl.TkDollar)
		w.kid(i, 0, p)
	default:
		w.operation(i, p)
	}
}

func (w *kindWriter) operation(i int, p impl.Pos) {
	n := w.l[i]
	switch n.Kind {
	case impl.EPre:
		w.add(n.Op)
		w.target(i, p)
	case impl.EPost:
		w.target(i, p)
		w.add(n.Op)
	case impl.EUnary:
		w.add(n.Op)
		w.kid(i, 0, p)
	case impl.EAssign:
		w.target(i, p)
		w.add(n.Op)
		w.kid(i, 1, p)
	case impl.ECond:
		w.kid(i, 0, p)
		w.add(impl.TkQuest)
		w.kid(i, 1, p)
		w.add(impl.TkColon)
		w.kid(i, 2, p)
	case impl.EBin:
		w.kid(i, 0, p)
		if n.Op != impl.OpCat {
			w.add(n.Op)
		}
		w.kid(i, 1, p)
	}
}

// outsideBrackets has the kinds that occur outside of brackets.
func outsideBrackets(kinds []int) map[int]bool {
	seen := map[int]bool{}
	open := 0
	for _, kind := range kinds {
		switch kind {
		case impl.TkLParen, impl.TkLBrack:
			open++
		case impl.TkRParen, impl.TkRBrack:
			open--
		default:
			if open == 0 {
				seen[kind] = true
			}
		}
	}
	return seen
}

// checkForbidden writes an expression at a position and looks for what the position
// forbids.
func checkForbidden(t *testing.T, l []impl.Node, p impl.Pos) {
	t.Helper()
	w := kindWriter{l: l}
	w.at(len(l)-1, p)
	seen := outsideBrackets(w.kinds)
	first := w.kinds[0]
	switch {
	case p.NoIn && seen[impl.TkIn], p.NoGt && seen[impl.TkGt]:
		t.Errorf("%s at %+v has tokens of the kinds %v", nodesShown(l), p, w.kinds)
	case p.NoSign && !impl.BeginsOperand(first):
		t.Errorf("%s at %+v begins with a token of kind %d", nodesShown(l), p, first)
	}
}

// TestP6ForbiddenOnlyInsideBrackets has random expressions at all valid positions.
func TestP6ForbiddenOnlyInsideBrackets(t *testing.T) {
	t.Parallel()
	m := newNodeMaker(rand.New(rand.NewPCG(9, 7)))
	for round := range 3000 {
		l := m.tree(1+round%15, 1+round%30, 2+round%12)
		for _, p := range validPositions() {
			checkForbidden(t, l, p)
		}
	}
}

// treesOver has the trees of these roots with each choice of the given trees as kids
// (up to three in a list).
func treesOver(roots []impl.Node, kids [][]impl.Node) [][]impl.Node {
	var all [][]impl.Node
	for _, root := range roots {
		for _, choice := range kidChoices(0, len(kids)-1, 3) {
			var subtrees [][]impl.Node
			for _, k := range choice {
				subtrees = append(subtrees, kids[k])
			}
			if x := joined(root, subtrees...); impl.ExprOk(x) {
				all = append(all, x)
			}
		}
	}
	return all
}

// smallExpressions has the expressions of each kind and Op over these kids.
func smallExpressions(kids [][]impl.Node) [][]impl.Node {
	heads := expressionHeads()
	for i, n := range heads {
		heads[i].Text = rightTexts(nodeRules()[n.Kind].text)[0]
	}
	return treesOver(heads, kids)
}

// TestP6SmallExpressionsForbidden has all small expressions of two levels, and some
// of three.
func TestP6SmallExpressionsForbidden(t *testing.T) {
	t.Parallel()
	x, ere := single(impl.EName, "x"), single(impl.EEre, "/a/")
	two := smallExpressions([][]impl.Node{x, ere})
	kids := [][]impl.Node{
		x, ere,
		joined(impl.Node{Kind: impl.EField}, x),
		joined(impl.Node{Kind: impl.EUnary, Op: impl.TkSub}, x),
		joined(impl.Node{Kind: impl.EPre, Op: impl.TkDecr}, x),
		joined(impl.Node{Kind: impl.EPost, Op: impl.TkIncr}, x),
		joined(impl.Node{Kind: impl.EBin, Op: impl.TkGt}, x, x),
		joined(impl.Node{Kind: impl.EBin, Op: impl.OpCat}, x, ere),
		joined(impl.Node{Kind: impl.EBin, Op: impl.TkPow}, ere, x),
		joined(impl.Node{Kind: impl.EIn, Text: "a"}, ere),
	}
	all := append(two, smallExpressions(kids)...)
	if len(all) < 2000 {
		t.Error("only", len(all), "expressions")
	}
	for _, l := range all {
		for _, p := range validPositions() {
			checkForbidden(t, l, p)
		}
	}
}

// TestP6SignAfterAnotherWord has a concatenation whose second operand begins with a
// sign or a regular expression, itself or by its first operands.
func TestP6SignAfterAnotherWord(t *testing.T) {
	x, one := single(impl.EName, "x"), single(impl.ENum, "1")
	minus := joined(impl.Node{Kind: impl.EUnary, Op: impl.TkSub}, x)
	incr := joined(impl.Node{Kind: impl.EPre, Op: impl.TkIncr}, x)
	ere := single(impl.EEre, "/a/")
	open, shut := impl.TkLParen, impl.TkRParen
	bin := func(op int, a, b []impl.Node) []impl.Node { return joined(impl.Node{Kind: impl.EBin, Op: op}, a, b) }
	for _, c := range []struct {
		second []impl.Node
		want   []int
	}{
		{minus, []int{open, impl.TkSub, impl.TkName, shut}},
		{incr, []int{open, impl.TkIncr, impl.TkName, shut}},
		{ere, []int{open, impl.TkEre, shut}},
		{joined(impl.Node{Kind: impl.EPost, Op: impl.TkIncr}, x), []int{impl.TkName, impl.TkIncr}},
		{joined(impl.Node{Kind: impl.EField}, minus), []int{impl.TkDollar, open, impl.TkSub, impl.TkName, shut}},
		{joined(impl.Node{Kind: impl.EField}, incr), []int{impl.TkDollar, impl.TkIncr, impl.TkName}},
		{joined(impl.Node{Kind: impl.EField}, ere), []int{impl.TkDollar, impl.TkEre}},
		{bin(impl.TkMul, one, minus), []int{impl.TkNum, impl.TkMul, impl.TkSub, impl.TkName}},
		{bin(impl.TkAdd, one, ere), []int{impl.TkNum, impl.TkAdd, impl.TkEre}},
		{bin(impl.TkAdd, minus, one), []int{open, impl.TkSub, impl.TkName, shut, impl.TkAdd, impl.TkNum}},
		{bin(impl.TkMul, ere, one), []int{open, impl.TkEre, shut, impl.TkMul, impl.TkNum}},
		{bin(impl.TkPow, incr, minus), []int{open, impl.TkIncr, impl.TkName, shut, impl.TkPow, impl.TkSub, impl.TkName}},
		{bin(impl.TkAdd, bin(impl.TkMul, bin(impl.TkPow, ere, one), one), minus), []int{open, impl.TkEre, shut, impl.TkPow, impl.TkNum, impl.TkMul, impl.TkNum, impl.TkAdd, impl.TkSub, impl.TkName}},
		{bin(impl.OpCat, one, minus), []int{open, impl.TkNum, open, impl.TkSub, impl.TkName, shut, shut}},
		{joined(impl.Node{Kind: impl.ECall, Text: "f"}, minus), []int{impl.TkFunc, open, impl.TkSub, impl.TkName, shut}},
	} {
		for first, begin := range map[int][]impl.Node{impl.TkNum: one, impl.TkSub: minus, impl.TkEre: ere} {
			w := kindWriter{l: bin(impl.OpCat, begin, c.second)}
			w.at(len(w.l)-1, impl.Top())
			want := []int{first}
			if first == impl.TkSub {
				want = []int{impl.TkSub, impl.TkName}
			}
			if want = append(want, c.want...); !slices.Equal(w.kinds, want) {
				t.Errorf("%s has tokens of the kinds %v, want %v", nodesShown(w.l), w.kinds, want)
			}
		}
	}
}

// TestP6PositionsAreTheSameEachTime calls all functions twice, in another order.
func TestP6PositionsAreTheSameEachTime(t *testing.T) {
	positions := somePositions()
	n := impl.Node{Kind: impl.EBin, Op: impl.OpCat, Kids: []int{0, 1}}
	shown := func(p impl.Pos) string {
		return fmt.Sprint(impl.Top(), impl.PosOk(p), impl.Fits(n, p), impl.KidPos(n, 0, p), impl.KidPos(n, 1, p))
	}
	var first []string
	for _, p := range positions {
		first = append(first, shown(p))
	}
	for i, p := range slices.Backward(positions) {
		if got := shown(p); got != first[i] {
			t.Errorf("at %+v: %s, and then %s", p, first[i], got)
		}
	}
}
