package tests

import (
	"fmt"
	"math"
	"math/rand/v2"
	"slices"
	"strings"
	"testing"

	"loop.example/g01543/impl"
)

// Each test here belongs to promise 5: the subtrees of a tree with a valid shape
// have valid shapes. (That those of a valid tree are valid belongs to chapter 7.)

const maxNodesWanted = 400

// branch is a node with its kids as pointers, from which lists in postorder and
// what the functions should say about them are made.
type branch struct {
	kids []*branch
}

// placeWanted is what the functions should say about one node of a list.
type placeWanted struct{ start, parent, depth int }

// postorder writes the branch behind the nodes of l, which are others' or its
// kids', and says the same of each node in places.
func (b *branch) postorder(l []impl.Node, places []placeWanted) ([]impl.Node, []placeWanted) {
	start := len(l)
	depth := 1
	var kids []int
	for _, kid := range b.kids {
		l, places = kid.postorder(l, places)
		kids = append(kids, len(l)-1)
		depth = max(depth, places[len(l)-1].depth+1)
	}
	for _, kid := range kids {
		places[kid].parent = len(l)
	}
	return append(l, impl.Node{Kids: kids}), append(places, placeWanted{start, -1, depth})
}

// listed is the list of a branch, with different contents in each node.
func (b *branch) listed() ([]impl.Node, []placeWanted) {
	l, places := b.postorder(nil, nil)
	for i := range l {
		l[i].Kind = 1 + i%7
		l[i].Op = i
		l[i].Text = string(rune('a' + i%26))
		l[i].Other = string(rune('A' + i%25))
	}
	return l, places
}

// forests has all lists of branches with n nodes together.
func forests(n int) [][]*branch {
	if n == 0 {
		return [][]*branch{nil}
	}
	var all [][]*branch
	for first := 1; first <= n; first++ {
		for _, kids := range forests(first - 1) {
			for _, rest := range forests(n - first) {
				all = append(all, append([]*branch{{kids}}, rest...))
			}
		}
	}
	return all
}

// trees has all branches with n nodes.
func trees(n int) []*branch {
	var all []*branch
	for _, kids := range forests(n - 1) {
		all = append(all, &branch{kids})
	}
	return all
}

// shapeWalk visits a list of nodes with these kids from its last node; see orderWanted.
type shapeWalk struct {
	kids  [][]int
	order []int
	steps int
}

// visit reports whether the nodes below node i can be visited in postorder
// without more visits than there are nodes.
func (w *shapeWalk) visit(i int) bool {
	w.steps++
	if i < 0 || i >= len(w.kids) || w.steps > len(w.kids) {
		return false
	}
	for _, kid := range w.kids[i] {
		if !w.visit(kid) {
			return false
		}
	}
	w.order = append(w.order, i)
	return true
}

// orderWanted is the document's definition, written once more: whoever visits the
// tree from its last node in postorder meets the nodes of the list in their order.
func orderWanted(kids [][]int, most int) bool {
	if len(kids) < 1 || len(kids) > most {
		return false
	}
	w := shapeWalk{kids: kids}
	if !w.visit(len(kids)-1) || len(w.order) != len(kids) {
		return false
	}
	for place, i := range w.order {
		if i != place {
			return false
		}
	}
	return true
}

func shapeWanted(l []impl.Node) bool {
	var kids [][]int
	for _, n := range l {
		kids = append(kids, n.Kids)
	}
	return orderWanted(kids, maxNodesWanted)
}

// nodesShown is a list of nodes such as (2) 1:0:"x":"":[] 11:56:"":"":[0], cut off after some.
func nodesShown(l []impl.Node) string {
	var parts []string
	for _, n := range l[:min(len(l), 20)] {
		parts = append(parts, fmt.Sprintf("%d:%d:%q:%q:%v", n.Kind, n.Op, n.Text, n.Other, n.Kids[:min(len(n.Kids), 20)]))
	}
	return fmt.Sprintf("(%d) %s", len(l), strings.Join(parts, " "))
}

func sameNodes(a, b []impl.Node) bool {
	return slices.EqualFunc(a, b, func(x, y impl.Node) bool {
		return x.Kind == y.Kind && x.Op == y.Op && x.Text == y.Text && x.Other == y.Other && slices.Equal(x.Kids, y.Kids)
	})
}

// cloned shares no memory with l.
func cloned(l []impl.Node) []impl.Node {
	m := slices.Clone(l)
	for i := range m {
		m[i].Kids = slices.Clone(m[i].Kids)
	}
	return m
}

// partWanted is the subtree of node i, given its beginning.
func partWanted(l []impl.Node, start, i int) []impl.Node {
	part := cloned(l[start : i+1])
	for _, n := range part {
		for k := range n.Kids {
			n.Kids[k] -= start
		}
	}
	return part
}

// nodesOutside has numbers that are no node of a list of n nodes.
func nodesOutside(n int) []int {
	return []int{math.MinInt, math.MinInt + 1, -n - 1, -n, -2, -1, n, n + 1, 2 * n, math.MaxInt - 1, math.MaxInt}
}

func checkNoNode(t *testing.T, l []impl.Node, i int) {
	t.Helper()
	if start, part, parent := impl.StartOf(l, i), impl.Part(l, i), impl.ParentOf(l, i); start != -1 || len(part) != 0 || parent != -1 {
		t.Errorf("node %d of %d nodes: StartOf %d, Part %s, ParentOf %d", i, len(l), start, nodesShown(part), parent)
	}
}

// checkInvalid checks what all functions say of a list without a valid shape.
func checkInvalid(t *testing.T, l []impl.Node) {
	t.Helper()
	before := cloned(l)
	if impl.ShapeOk(l) || impl.DepthOf(l) != 0 {
		t.Errorf("%s: ShapeOk %v, DepthOf %d", nodesShown(before), impl.ShapeOk(l), impl.DepthOf(l))
	}
	for i := range min(len(l), 5) {
		checkNoNode(t, l, i)
		checkNoNode(t, l, len(l)-1-i)
	}
	for _, i := range nodesOutside(len(l)) {
		checkNoNode(t, l, i)
	}
	if !sameNodes(l, before) || !impl.SameTree(l, before) {
		t.Errorf("%s was changed", nodesShown(before))
	}
}

// checkPart checks the subtree of node i, and that of each of its nodes.
func checkPart(t *testing.T, l []impl.Node, places []placeWanted, i int) {
	t.Helper()
	start := places[i].start
	part := impl.Part(l, i)
	if !sameNodes(part, partWanted(l, start, i)) {
		t.Errorf("Part of node %d of %s is %s", i, nodesShown(l), nodesShown(part))
		return
	}
	if !impl.ShapeOk(part) || !shapeWanted(part) || impl.DepthOf(part) != places[i].depth {
		t.Errorf("Part of node %d of %s: ShapeOk %v, DepthOf %d, want %d", i, nodesShown(l), impl.ShapeOk(part), impl.DepthOf(part), places[i].depth)
	}
	if impl.SameTree(part, l) != (len(part) == len(l)) {
		t.Errorf("SameTree of %s and its Part at %d", nodesShown(l), i)
	}
	checkInner(t, l, part, start)
}

// checkInner checks that a part of the list, from this node on, has the subtrees
// that the list has; only some, in a long part.
func checkInner(t *testing.T, l, part []impl.Node, start int) {
	t.Helper()
	for i := 0; i < len(part); i += 1 + len(part)/8 {
		if inner := impl.Part(part, i); !sameNodes(inner, impl.Part(l, start+i)) {
			t.Errorf("Part of node %d of the Part from node %d on is %s", i, start, nodesShown(inner))
		}
	}
}

// checkValid checks what all functions say of a list with a valid shape.
func checkValid(t *testing.T, l []impl.Node, places []placeWanted) {
	t.Helper()
	before := cloned(l)
	root := len(l) - 1
	if !impl.ShapeOk(l) || impl.DepthOf(l) != places[root].depth {
		t.Fatalf("%s: ShapeOk %v, DepthOf %d, want %d", nodesShown(l), impl.ShapeOk(l), impl.DepthOf(l), places[root].depth)
	}
	for i, p := range places {
		if start, parent := impl.StartOf(l, i), impl.ParentOf(l, i); start != p.start || parent != p.parent {
			t.Errorf("node %d of %s: StartOf %d, ParentOf %d, want %d, %d", i, nodesShown(l), start, parent, p.start, p.parent)
		}
		checkPart(t, l, places, i)
	}
	for _, i := range nodesOutside(len(l)) {
		checkNoNode(t, l, i)
	}
	if !sameNodes(l, before) {
		t.Errorf("%s was changed", nodesShown(before))
	}
}

// kidLists is a list of nodes with these kids and nothing else.
func kidLists(kids ...[]int) []impl.Node {
	var l []impl.Node
	for _, k := range kids {
		l = append(l, impl.Node{Kind: impl.EName, Text: "x", Kids: k})
	}
	return l
}

// exampleTree is the tree of -a * f(b, 1).
func exampleTree() []impl.Node {
	return []impl.Node{
		{Kind: impl.EName, Text: "a"},
		{Kind: impl.EUnary, Op: impl.TkSub, Kids: []int{0}},
		{Kind: impl.EName, Text: "b"},
		{Kind: impl.ENum, Text: "1"},
		{Kind: impl.ECall, Text: "f", Kids: []int{2, 3}},
		{Kind: impl.EBin, Op: impl.TkMul, Kids: []int{1, 4}},
	}
}

func TestP5Constants(t *testing.T) {
	if impl.MaxNodes != maxNodesWanted || impl.MaxDepth != 40 || impl.OpCat != 99 {
		t.Error("MaxNodes, MaxDepth, OpCat:", impl.MaxNodes, impl.MaxDepth, impl.OpCat)
	}
	for _, x := range []struct {
		first int
		kinds []int
	}{
		{1, []int{
			impl.EName, impl.ENum, impl.EStr, impl.EEre, impl.EIndex, impl.EField, impl.ECall, impl.EBuiltin,
			impl.EPre, impl.EPost, impl.EUnary, impl.EBin, impl.EIn, impl.ECond, impl.EAssign, impl.ENone,
		}},
		{20, []int{
			impl.SExpr, impl.SPrint, impl.SNext, impl.SExit, impl.SReturn, impl.SBreak, impl.SContinue, impl.SDelete,
			impl.SIf, impl.SWhile, impl.SDo, impl.SFor, impl.SForIn, impl.SBlock, impl.SComment,
		}},
		{40, []int{impl.IBegin, impl.IEnd, impl.IRule, impl.IRange, impl.IFunc, impl.PProgram}},
	} {
		for i, kind := range x.kinds {
			if kind != x.first+i {
				t.Errorf("kind %d is %d", x.first+i, kind)
			}
		}
	}
}

func TestP5Node(t *testing.T) {
	type shape = struct {
		Kind, Op    int
		Text, Other string
		Kids        []int
	}
	n := shape(impl.Node{Kind: impl.SForIn, Op: 7, Text: "k", Other: "a", Kids: []int{3}})
	if n.Kind != 32 || n.Op != 7 || n.Text != "k" || n.Other != "a" || !slices.Equal(n.Kids, []int{3}) {
		t.Error("the fields of Node")
	}
}

func TestP5Example(t *testing.T) {
	l := exampleTree()
	checkValid(t, l, []placeWanted{{0, 1, 1}, {0, 5, 2}, {2, 4, 1}, {3, 4, 1}, {2, 5, 2}, {0, -1, 3}})
	checkInvalid(t, l[:5])
	if impl.StartOf(l, 4) != 2 || impl.ParentOf(l, 1) != 5 || impl.ParentOf(l, 5) != -1 || impl.DepthOf(l) != 3 || impl.KindCount(l, impl.EName) != 2 {
		t.Error("StartOf, ParentOf, DepthOf, KindCount")
	}
	part := impl.Part(l, 4)
	want := []impl.Node{{Kind: 1, Text: "b"}, {Kind: 2, Text: "1"}, {Kind: 7, Text: "f", Kids: []int{0, 1}}}
	if !sameNodes(part, want) || !impl.SameTree(part, want) || impl.SameTree(part, l) || impl.SameTree(part, l[2:5]) {
		t.Error("Part", nodesShown(part))
	}
}

func TestP5ShapeExamples(t *testing.T) {
	for _, l := range [][]impl.Node{
		kidLists(nil),
		kidLists([]int{}),
		kidLists(nil, []int{0}),
		kidLists(nil, []int{0}, []int{1}),
		kidLists(nil, nil, []int{0, 1}),
		kidLists(nil, []int{0}, nil, []int{1, 2}),
		kidLists(nil, nil, []int{1}, []int{0, 2}),
		kidLists(nil, nil, []int{0, 1}, nil, nil, []int{3, 4}, []int{2, 5}),
	} {
		if !impl.ShapeOk(l) || !shapeWanted(l) {
			t.Errorf("ShapeOk(%s) is false", nodesShown(l))
		}
	}
}

// shapeCase is a list of nodes that has no valid shape, and why.
type shapeCase struct {
	name string
	l    []impl.Node
}

func invalidShapes() []shapeCase {
	return []shapeCase{
		{"no nodes", nil},
		{"no nodes", []impl.Node{}},
		{"its own kid", kidLists([]int{0})},
		{"its own kid", kidLists(nil, []int{1})},
		{"its own kid", kidLists(nil, []int{0, 1})},
		{"its own kid", kidLists([]int{0}, []int{0})},
		{"its own kid", kidLists(nil, []int{0}, []int{2})},
		{"its own kid", kidLists(nil, []int{1}, []int{1})},
		{"a kid behind its parent", kidLists([]int{1}, []int{0})},
		{"a kid behind its parent", kidLists([]int{1}, nil)},
		{"a kid behind its parent", kidLists(nil, []int{2}, []int{0})},
		{"a kid behind its parent", kidLists(nil, []int{2}, []int{0, 1})},
		{"a kid behind the list", kidLists([]int{1})},
		{"a kid behind the list", kidLists(nil, []int{0, 2})},
		{"a kid behind the list", kidLists(nil, []int{math.MaxInt})},
		{"a kid below 0", kidLists([]int{-1})},
		{"a kid below 0", kidLists(nil, []int{-1})},
		{"a kid below 0", kidLists(nil, []int{-1, 0})},
		{"a kid below 0", kidLists(nil, []int{0}, []int{-1, 1})},
		{"a kid below 0", kidLists(nil, []int{-2, -1, 0})},
		{"a kid below 0", kidLists(nil, []int{math.MinInt})},
		{"the same kid twice", kidLists(nil, []int{0, 0})},
		{"the same kid twice", kidLists(nil, nil, []int{0, 1, 1})},
		{"the same kid twice", kidLists(nil, nil, []int{0, 0, 1})},
		{"the same kid twice", kidLists(nil, []int{0}, []int{1, 1})},
		{"the wrong order", kidLists(nil, nil, []int{1, 0})},
		{"the wrong order", kidLists(nil, nil, nil, []int{0, 2, 1})},
		{"the wrong order", kidLists(nil, nil, nil, []int{1, 0, 2})},
		{"the wrong order", kidLists(nil, []int{0}, nil, []int{2, 1})},
		{"a gap between two kids", kidLists(nil, nil, nil, []int{0, 2})},
		{"a gap between two kids", kidLists(nil, nil, []int{1}, nil, []int{0, 3})},
		{"a gap before the parent", kidLists(nil, nil, []int{0})},
		{"a gap before the parent", kidLists(nil, nil, nil, []int{0, 1})},
		{"nobody's kid", kidLists(nil, nil)},
		{"nobody's kid", kidLists(nil, nil, []int{1})},
		{"nobody's kid", kidLists(nil, nil, nil, []int{1, 2})},
		{"nobody's kid", kidLists(nil, []int{0}, nil)},
		{"nobody's kid", kidLists(nil, []int{0}, nil, []int{2})},
		{"the kid of two", kidLists(nil, []int{0}, []int{0})},
		{"the kid of two", kidLists(nil, []int{0}, []int{0, 1})},
		{"the kid of two", kidLists(nil, nil, []int{0, 1}, []int{1, 2})},
		{"the kid of two", kidLists(nil, nil, []int{0, 1}, []int{0, 2})},
		{"a kid's kid is wrong", kidLists(nil, []int{}, []int{0}, []int{1, 2})},
		{"a kid's kid is wrong", kidLists([]int{-1}, []int{0})},
	}
}

func TestP5ShapeInvalid(t *testing.T) {
	for _, x := range invalidShapes() {
		if shapeWanted(x.l) {
			t.Errorf("%s: the shape is valid", x.name)
		}
		checkInvalid(t, x.l)
		if t.Failed() {
			t.Fatal(x.name, nodesShown(x.l))
		}
	}
}

// kidChoices has all lists of up to most of the numbers from low to high.
func kidChoices(low, high, most int) [][]int {
	all := [][]int{nil}
	for begin, n := 0, 0; n < most; n++ {
		end := len(all)
		for _, k := range all[begin:end] {
			for x := low; x <= high; x++ {
				all = append(all, append(slices.Clone(k), x))
			}
		}
		begin = end
	}
	return all
}

// eachList calls check with each list that takes the kids of node i from choices[i].
func eachList(choices [][][]int, check func(l []impl.Node)) {
	l := make([]impl.Node, len(choices))
	var choose func(i int)
	choose = func(i int) {
		if i == len(l) {
			check(l)
			return
		}
		for _, kids := range choices[i] {
			l[i].Kids = kids
			choose(i + 1)
		}
	}
	choose(0)
}

// shortLists has choices of kids for each node of some short lists; see eachList.
func shortLists() [][][][]int {
	return [][][][]int{
		{kidChoices(-3, 3, 4)},
		{kidChoices(-2, 3, 3), kidChoices(-2, 3, 4)},
		{kidChoices(-1, 3, 2), kidChoices(-1, 3, 2), kidChoices(-1, 3, 3)},
		{kidChoices(0, 1, 1), kidChoices(0, 3, 2), kidChoices(0, 3, 2), kidChoices(-1, 3, 3)},
		{kidChoices(0, 0, 0), kidChoices(0, 1, 1), kidChoices(0, 2, 2), kidChoices(0, 3, 3), kidChoices(0, 3, 4)},
	}
}

// TestP5ShapesOfShortLists finds the valid shapes among all short lists: exactly
// those that come from a tree with pointers.
func TestP5ShapesOfShortLists(t *testing.T) {
	for _, choices := range shortLists() {
		var want [][]impl.Node
		for _, b := range trees(len(choices)) {
			l, _ := b.postorder(nil, nil)
			want = append(want, l)
		}
		found := 0
		eachList(choices, func(l []impl.Node) {
			valid := impl.ShapeOk(l)
			if valid != shapeWanted(l) {
				t.Fatalf("ShapeOk(%s) is %v", nodesShown(l), valid)
			}
			if !valid {
				return
			}
			found++
			if !slices.ContainsFunc(want, func(m []impl.Node) bool { return sameNodes(l, m) }) {
				t.Errorf("ShapeOk(%s) is true", nodesShown(l))
			}
		})
		if found != len(want) {
			t.Errorf("%d valid shapes of %d nodes, want %d", found, len(choices), len(want))
		}
	}
}

func TestP5EachSmallTree(t *testing.T) {
	for n := 1; n <= 8; n++ {
		for _, b := range trees(n) {
			l, places := b.listed()
			checkValid(t, l, places)
			for cut := range n {
				checkInvalidOr(t, l[:cut])
				checkInvalidOr(t, l[cut+1:])
			}
		}
	}
}

// checkInvalidOr checks a list that may have a valid shape by accident.
func checkInvalidOr(t *testing.T, l []impl.Node) {
	t.Helper()
	if !shapeWanted(l) {
		checkInvalid(t, l)
	} else if !impl.ShapeOk(l) || impl.StartOf(l, len(l)-1) != 0 {
		t.Errorf("ShapeOk(%s) is false", nodesShown(l))
	}
}

// chain has n nodes below each other.
func chain(n int) *branch {
	b := &branch{}
	for range n - 1 {
		b = &branch{[]*branch{b}}
	}
	return b
}

// fan has one node above all others.
func fan(n int) *branch {
	b := &branch{}
	for range n - 1 {
		b.kids = append(b.kids, &branch{})
	}
	return b
}

// randomTree has n nodes; a greater reach makes it flatter.
func randomTree(random *rand.Rand, n, reach int) *branch {
	all := []*branch{{}}
	for len(all) < n {
		above := all[max(0, len(all)-1-random.IntN(reach))]
		b := &branch{}
		above.kids = slices.Insert(above.kids, random.IntN(len(above.kids)+1), b)
		all = append(all, b)
	}
	return all[0]
}

func TestP5ChainsAndFans(t *testing.T) {
	for _, n := range []int{1, 2, 3, 39, 40, 41, maxNodesWanted - 1, maxNodesWanted} {
		l, places := chain(n).listed()
		checkValid(t, l, places)
		if n > 1 && (impl.DepthOf(l) != n || impl.StartOf(l, n-1) != 0 || impl.StartOf(l, n-2) != 0 || impl.ParentOf(l, 0) != 1) {
			t.Errorf("a chain of %d nodes", n)
		}
		l, places = fan(n).listed()
		checkValid(t, l, places)
		if n > 1 && (impl.DepthOf(l) != 2 || impl.StartOf(l, n-2) != n-2 || impl.ParentOf(l, 0) != n-1 || len(impl.Part(l, n-2)) != 1) {
			t.Errorf("a fan of %d nodes", n)
		}
	}
}

func TestP5MoreThanMaxNodes(t *testing.T) {
	random := rand.New(rand.NewPCG(6, 5))
	for _, n := range []int{maxNodesWanted + 1, maxNodesWanted + 2, 2 * maxNodesWanted, 100000} {
		for _, b := range []*branch{chain(min(n, 1000)), fan(n), randomTree(random, min(n, 1000), 20)} {
			l, _ := b.listed()
			checkInvalid(t, l)
			if got := impl.KindCount(l, 1); got != (len(l)+6)/7 {
				t.Errorf("KindCount of %d nodes is %d", len(l), got)
			}
			// Without the root, a fan's nodes are nobody's kids, but a chain's are a shorter chain.
			checkInvalidOr(t, l[:maxNodesWanted])
		}
	}
}

func TestP5RandomTrees(t *testing.T) {
	random := rand.New(rand.NewPCG(5, 6))
	for n := range 120 {
		l, places := randomTree(random, 1+random.IntN(60), 1+n%30).listed()
		checkValid(t, l, places)
	}
	for reach := 1; reach <= maxNodesWanted; reach *= 3 {
		l, places := randomTree(random, maxNodesWanted, reach).listed()
		checkValid(t, l, places)
	}
}

// changedKids returns the kids after one random change.
func changedKids(random *rand.Rand, kids []int, n int) []int {
	kids = slices.Clone(kids)
	at := random.IntN(len(kids) + 1)
	if len(kids) == 0 || random.IntN(3) == 0 {
		return slices.Insert(kids, at, random.IntN(n+2)-1)
	}
	at = random.IntN(len(kids))
	other := random.IntN(len(kids))
	switch random.IntN(4) {
	case 0:
		kids[at]++
	case 1:
		kids[at]--
	case 2:
		kids[at], kids[other] = kids[other], kids[at]
	case 3:
		return slices.Delete(kids, at, at+1)
	}
	return kids
}

func TestP5RandomChanges(t *testing.T) {
	random := rand.New(rand.NewPCG(5, 7))
	invalid := 0
	for n := range 3000 {
		l, _ := randomTree(random, 1+random.IntN(40), 1+n%20).listed()
		m := cloned(l)
		at := random.IntN(len(m))
		m[at].Kids = changedKids(random, m[at].Kids, len(m))
		if !shapeWanted(m) {
			invalid++
		}
		checkInvalidOr(t, m)
		if same := slices.Equal(l[at].Kids, m[at].Kids); impl.SameTree(l, m) != same || impl.SameTree(m, l) != same {
			t.Errorf("SameTree of kids %v and %v", l[at].Kids, m[at].Kids)
		}
	}
	if invalid < 2000 {
		t.Errorf("only %d of 3000 shapes are invalid", invalid)
	}
}

func TestP5SwappedNodes(t *testing.T) {
	l := exampleTree()
	for i := range l {
		for k := range i {
			m := cloned(l)
			m[i], m[k] = m[k], m[i]
			checkInvalidOr(t, m)
			if impl.SameTree(l, m) || impl.SameTree(m, l) {
				t.Errorf("SameTree of nodes %d and %d swapped", i, k)
			}
		}
	}
}

func TestP5SameTree(t *testing.T) {
	l := exampleTree()
	if !impl.SameTree(nil, nil) || !impl.SameTree(nil, []impl.Node{}) || !impl.SameTree(l, l) || !impl.SameTree(l, cloned(l)) {
		t.Error("equal lists")
	}
	for i := range l {
		for name, change := range map[string]func(n *impl.Node){
			"Kind":      func(n *impl.Node) { n.Kind++ },
			"Op":        func(n *impl.Node) { n.Op-- },
			"Text":      func(n *impl.Node) { n.Text += "x" },
			"Other":     func(n *impl.Node) { n.Other = ">" },
			"more kids": func(n *impl.Node) { n.Kids = append(n.Kids, 0) },
			"its own":   func(n *impl.Node) { n.Kids = append(n.Kids, i) },
			"a hole":    func(n *impl.Node) { n.Kids = append([]int{-1}, n.Kids...) },
			"both texts": func(n *impl.Node) {
				n.Other, n.Text = n.Text+"x", n.Other
			},
		} {
			m := cloned(l)
			change(&m[i])
			if impl.SameTree(l, m) || impl.SameTree(m, l) || !impl.SameTree(m, m) || !impl.SameTree(m, cloned(m)) {
				t.Errorf("%s of node %d", name, i)
			}
		}
	}
}

func TestP5SameTreeOfKids(t *testing.T) {
	l := exampleTree()
	for i := range l {
		for k := range l[i].Kids {
			for _, by := range []int{-1, 1, math.MinInt} {
				m := cloned(l)
				m[i].Kids[k] += by
				if impl.SameTree(l, m) || impl.SameTree(m, l) {
					t.Errorf("kid %d of node %d", k, i)
				}
			}
			m := cloned(l)
			m[i].Kids = m[i].Kids[:k]
			if impl.SameTree(l, m) || impl.SameTree(m, l) {
				t.Errorf("%d kids of node %d", k, i)
			}
		}
	}
	if !impl.SameTree(kidLists(nil), kidLists([]int{})) || !impl.SameTree(kidLists([]int{}), kidLists(nil)) {
		t.Error("no kids and empty kids")
	}
}

func TestP5SameTreeOfOtherLengths(t *testing.T) {
	l := exampleTree()
	for n := range len(l) {
		if impl.SameTree(l, l[:n]) || impl.SameTree(l[:n], l) || impl.SameTree(l, l[len(l)-n:]) || impl.SameTree(l, append(cloned(l), l[n])) {
			t.Errorf("a list of %d nodes", n)
		}
	}
	if impl.SameTree(nil, l[:1]) || impl.SameTree(kidLists(nil, nil), kidLists(nil)) {
		t.Error("short lists")
	}
}

func TestP5SameTreeOfInvalidShapes(t *testing.T) {
	for _, l := range [][]impl.Node{
		kidLists([]int{0}),
		kidLists(nil, nil),
		kidLists([]int{1}, []int{0}),
		kidLists([]int{math.MinInt, math.MaxInt}, nil),
		slices.Repeat(exampleTree(), 200),
	} {
		m := cloned(l)
		m[len(m)-1].Kids = append(m[len(m)-1].Kids, 5)
		if !impl.SameTree(l, cloned(l)) || impl.SameTree(l, m) || impl.SameTree(m, l) || impl.SameTree(l, l[1:]) {
			t.Errorf("SameTree of %s", nodesShown(l))
		}
	}
}

func TestP5KindCount(t *testing.T) {
	counts := map[int]int{impl.EName: 2, impl.ENum: 1, impl.EUnary: 1, impl.ECall: 1, impl.EBin: 1}
	l := exampleTree()
	for kind := -3; kind <= 102; kind++ {
		if got := impl.KindCount(l, kind); got != counts[kind] {
			t.Errorf("KindCount of %d is %d, want %d", kind, got, counts[kind])
		}
		if impl.KindCount(nil, kind) != 0 || impl.KindCount([]impl.Node{}, kind) != 0 {
			t.Errorf("KindCount of %d in an empty list", kind)
		}
	}
	if impl.KindCount(l, math.MinInt) != 0 || impl.KindCount(l, math.MaxInt) != 0 {
		t.Error("KindCount of far kinds")
	}
}

func TestP5KindCountOfInvalidShapes(t *testing.T) {
	l := exampleTree()
	if impl.KindCount(l[:5], impl.EName) != 2 || impl.KindCount(l[1:], impl.EName) != 1 || impl.KindCount(slices.Repeat(l, 500), impl.EName) != 1000 {
		t.Error("parts and repeated lists")
	}
	m := append(kidLists([]int{0}, []int{-1}), impl.Node{Kind: 0}, impl.Node{Kind: 17}, impl.Node{Kind: -1}, impl.Node{Kind: math.MinInt})
	for kind, want := range map[int]int{impl.EName: 2, 0: 1, 17: 1, -1: 1, math.MinInt: 1, 1 - math.MaxInt: 0, 16: 0} {
		if got := impl.KindCount(m, kind); got != want {
			t.Errorf("KindCount of %d is %d, want %d", kind, got, want)
		}
	}
}

// TestP5ContentsDoNotMatter changes everything but the kids.
func TestP5ContentsDoNotMatter(t *testing.T) {
	random := rand.New(rand.NewPCG(5, 8))
	numbers := []int{math.MinInt, -1, 0, 1, 17, 45, 99, math.MaxInt}
	texts := []string{"", "x", "\x00", "\xff\n", "\"a"}
	for range 200 {
		l, places := randomTree(random, 1+random.IntN(20), 1+random.IntN(6)).listed()
		for i := range l {
			l[i].Kind, l[i].Op = numbers[random.IntN(len(numbers))], numbers[random.IntN(len(numbers))]
			l[i].Text, l[i].Other = texts[random.IntN(len(texts))], texts[random.IntN(len(texts))]
		}
		checkValid(t, l, places)
	}
}

// spare is l where each list has unused capacity with marks in it, and a function
// that reports whether all marks are still there.
func spare(l []impl.Node) ([]impl.Node, func() bool) {
	mark := impl.Node{Kind: 77, Text: "unused"}
	long := append(cloned(l), mark, mark)
	var kidsOf [][]int
	for i := range l {
		k := append(slices.Clone(l[i].Kids), 77, 77)
		kidsOf = append(kidsOf, k)
		long[i].Kids = k[:len(k)-2]
	}
	return long[:len(l)], func() bool {
		for _, k := range kidsOf {
			if !slices.Equal(k[len(k)-2:], []int{77, 77}) {
				return false
			}
		}
		return sameNodes(long[:len(l)], l) && sameNodes(long[len(l):], []impl.Node{mark, mark})
	}
}

func TestP5ArgumentsStay(t *testing.T) {
	for _, l := range [][]impl.Node{exampleTree(), exampleTree()[:5], kidLists(nil, []int{0, 0})} {
		short, unchanged := spare(l)
		for i := -1; i <= len(l); i++ {
			impl.StartOf(short, i)
			impl.ParentOf(short, i)
			impl.KindCount(short, i)
			part := impl.Part(short, i)
			for k := range part {
				part[k].Kids = append(part[k].Kids, 5, 6, 7)
				part[k].Kids[0] = 99
				part[k].Text = "changed"
			}
			part = append(part, impl.Node{}, impl.Node{}, impl.Node{})
			part[0].Kind = -1
		}
		impl.ShapeOk(short)
		impl.DepthOf(short)
		impl.SameTree(short, short)
		if !unchanged() {
			t.Errorf("%s was changed", nodesShown(l))
		}
	}
}

func TestP5ResultsAreNew(t *testing.T) {
	l, _ := randomTree(rand.New(rand.NewPCG(5, 9)), 30, 5).listed()
	for i := range l {
		a, b := impl.Part(l, i), impl.Part(l, i)
		before := cloned(b)
		for k := range a {
			kids := append(a[k].Kids, 55, 56)
			for x := range kids {
				kids[x] = -5
			}
			if k+1 < len(a) && !sameNodes(a[k+1:], before[k+1:]) {
				t.Errorf("the kids of node %d share memory with another node", k)
			}
		}
		for k := len(a) - 1; k >= 0; k-- {
			a[k] = impl.Node{Text: "changed"}
		}
		if !sameNodes(b, before) {
			t.Errorf("two results of Part at %d share memory", i)
		}
	}
}
