package tests

import (
	"fmt"
	"math"
	"math/rand/v2"
	"slices"
	"strings"
	"testing"

	"loop.example/g01543/impl"
)

// Each test here belongs to promise 11, as far as this chapter goes: which documents
// are valid, their text on one line, and what keeps them from being on one line.

const maxDocWanted = 4000

// docRule is what the document says of one kind: N is from 0 to most, text tells
// whether Text may be something, and there are fewest to many kids.
type docRule struct {
	most         int
	text         bool
	fewest, many int
}

type docCheck struct {
	rules map[int]docRule
}

func newDocCheck() docCheck {
	return docCheck{map[int]docRule{
		impl.DText:  {text: true},
		impl.DLine:  {},
		impl.DHard:  {},
		impl.DNest:  {most: 40, fewest: 1, many: 1},
		impl.DGroup: {fewest: 1, many: 1},
		impl.DCat:   {many: math.MaxInt},
	}}
}

func (c docCheck) fieldsWanted(n impl.DNode) bool {
	rule, known := c.rules[n.Kind]
	if !known || n.N < 0 || n.N > rule.most || len(n.Kids) < rule.fewest || len(n.Kids) > rule.many {
		return false
	}
	for _, b := range []byte(n.Text) {
		if !rule.text || b == 10 {
			return false
		}
	}
	return true
}

func (c docCheck) okWanted(l []impl.DNode) bool {
	var kids [][]int
	for _, n := range l {
		kids = append(kids, n.Kids)
		if !c.fieldsWanted(n) {
			return false
		}
	}
	return orderWanted(kids, maxDocWanted)
}

// flatWanted is what FlatText should return for a valid document.
func flatWanted(l []impl.DNode) (string, bool) {
	var texts []string
	for _, n := range l {
		switch n.Kind {
		case impl.DText:
			texts = append(texts, n.Text)
		case impl.DLine:
			texts = append(texts, " ")
		case impl.DHard:
			return "", false
		}
	}
	return strings.Join(texts, ""), true
}

func groupsWanted(l []impl.DNode) int {
	count := 0
	for _, n := range l {
		if n.Kind == 5 {
			count++
		}
	}
	return count
}

// docShown is a list of nodes such as (2) 1:0:"x":[] 4:8:"":[0], cut off after some.
func docShown(l []impl.DNode) string {
	var parts []string
	for _, n := range l[:min(len(l), 20)] {
		parts = append(parts, fmt.Sprintf("%d:%d:%.40q:%v", n.Kind, n.N, n.Text, n.Kids[:min(len(n.Kids), 20)]))
	}
	return fmt.Sprintf("(%d) %s", len(l), strings.Join(parts, " "))
}

func clonedDoc(l []impl.DNode) []impl.DNode {
	m := slices.Clone(l)
	for i := range m {
		m[i].Kids = slices.Clone(m[i].Kids)
	}
	return m
}

func equalDocs(a, b []impl.DNode) bool {
	return slices.EqualFunc(a, b, func(x, y impl.DNode) bool {
		return x.Kind == y.Kind && x.N == y.N && x.Text == y.Text && slices.Equal(x.Kids, y.Kids)
	})
}

// checkDoc checks what the functions say of a document that is valid, and whose text
// on one line is flat, exactly if flatOk is true.
func checkDoc(t *testing.T, l []impl.DNode, flat string, flatOk bool) {
	t.Helper()
	if s, ok := impl.FlatText(l); !impl.DocOk(l) || s != flat || ok != flatOk {
		t.Errorf("%s: DocOk %v, FlatText %.300q, %v, want %.300q, %v", docShown(l), impl.DocOk(l), s, ok, flat, flatOk)
	}
	if strings.Contains(flat, "\n") || !flatOk && flat != "" {
		t.Errorf("%s: want %.300q, %v", docShown(l), flat, flatOk)
	}
	checkAnyDoc(t, l)
}

func checkNoDoc(t *testing.T, l []impl.DNode) {
	t.Helper()
	if s, ok := impl.FlatText(l); impl.DocOk(l) || s != "" || ok {
		t.Errorf("%s: DocOk %v, FlatText %.300q, %v", docShown(l), impl.DocOk(l), s, ok)
	}
	checkAnyDoc(t, l)
}

// checkAnyDoc checks what holds for each list.
func checkAnyDoc(t *testing.T, l []impl.DNode) {
	t.Helper()
	if got := impl.GroupsIn(l); got != groupsWanted(l) {
		t.Errorf("%s: GroupsIn %d, want %d", docShown(l), got, groupsWanted(l))
	}
	if !impl.SameDoc(l, l) || !impl.SameDoc(l, clonedDoc(l)) {
		t.Errorf("%s is not the same as itself", docShown(l))
	}
}

// check checks a list that may be a valid document or not, and reports which.
func (c docCheck) check(t *testing.T, l []impl.DNode) bool {
	t.Helper()
	before := clonedDoc(l)
	valid := c.okWanted(l)
	if valid {
		flat, ok := flatWanted(l)
		checkDoc(t, l, flat, ok)
	} else {
		checkNoDoc(t, l)
	}
	if !equalDocs(l, before) {
		t.Errorf("%s was changed", docShown(before))
	}
	return valid
}

// joinedDoc has the root above the parts.
func joinedDoc(root impl.DNode, parts ...[]impl.DNode) []impl.DNode {
	var l []impl.DNode
	root.Kids = nil
	for _, part := range parts {
		start := len(l)
		for _, n := range clonedDoc(part) {
			for k := range n.Kids {
				n.Kids[k] += start
			}
			l = append(l, n)
		}
		root.Kids = append(root.Kids, len(l)-1)
	}
	return append(l, root)
}

func textDoc(s string) []impl.DNode { return []impl.DNode{{Kind: impl.DText, Text: s}} }
func lineDoc() []impl.DNode         { return []impl.DNode{{Kind: impl.DLine}} }
func hardDoc() []impl.DNode         { return []impl.DNode{{Kind: impl.DHard}} }

func nestDoc(n int, part []impl.DNode) []impl.DNode {
	return joinedDoc(impl.DNode{Kind: impl.DNest, N: n}, part)
}

func groupDoc(part []impl.DNode) []impl.DNode {
	return joinedDoc(impl.DNode{Kind: impl.DGroup}, part)
}

func catDoc(parts ...[]impl.DNode) []impl.DNode {
	return joinedDoc(impl.DNode{Kind: impl.DCat}, parts...)
}

// docExample is the document of a line break between two texts, in a group.
func docExample() []impl.DNode {
	return []impl.DNode{
		{Kind: impl.DText, Text: "a"},
		{Kind: impl.DLine},
		{Kind: impl.DText, Text: "b"},
		{Kind: impl.DCat, Kids: []int{0, 1, 2}},
		{Kind: impl.DGroup, Kids: []int{3}},
	}
}

func TestP11DocConstants(t *testing.T) {
	if impl.MaxDoc != maxDocWanted {
		t.Error("MaxDoc", impl.MaxDoc)
	}
	kinds := []int{impl.DText, impl.DLine, impl.DHard, impl.DNest, impl.DGroup, impl.DCat}
	if !slices.Equal(kinds, []int{1, 2, 3, 4, 5, 6}) {
		t.Error("the kinds of nodes", kinds)
	}
	type shape = struct {
		Kind, N int
		Text    string
		Kids    []int
	}
	n := shape(impl.DNode{Kind: impl.DNest, N: 8, Text: "x", Kids: []int{3}})
	if n.Kind != 4 || n.N != 8 || n.Text != "x" || !slices.Equal(n.Kids, []int{3}) {
		t.Error("the fields of DNode")
	}
}

func TestP11DocExample(t *testing.T) {
	l := docExample()
	checkDoc(t, l, "a b", true)
	if impl.GroupsIn(l) != 1 || impl.SameDoc(l, l[:4]) || !impl.SameDoc(l, groupDoc(catDoc(textDoc("a"), lineDoc(), textDoc("b")))) {
		t.Error("GroupsIn, SameDoc")
	}
	checkDoc(t, l[:1], "a", true)
	checkDoc(t, l[1:2], " ", true)
	checkDoc(t, l[:4], "a b", true)
	for _, part := range [][]impl.DNode{l[1:], l[2:], l[3:], l[4:], l[:3], l[:2], l[1:3]} {
		checkNoDoc(t, part)
	}
	l[1].Kind = impl.DHard
	checkDoc(t, l, "", false)
	checkDoc(t, l[1:2], "", false)
	checkNoDoc(t, l[1:])
	if impl.GroupsIn(l) != 1 || impl.SameDoc(l, docExample()) {
		t.Error("GroupsIn, SameDoc of a forced line break")
	}
	checkNoDoc(t, textDoc("\n"))
	checkNoDoc(t, nestDoc(41, lineDoc()))
}

// wrap puts a document into one around it, and the text of the one into that of the
// other.
type wrap struct {
	name   string
	groups int
	doc    func(l []impl.DNode) []impl.DNode
	before string
	after  string
}

func wraps() []wrap {
	return []wrap{
		{"a group", 1, groupDoc, "", ""},
		{"a nest", 0, func(l []impl.DNode) []impl.DNode { return nestDoc(4, l) }, "", ""},
		{"a cat", 0, func(l []impl.DNode) []impl.DNode { return catDoc(l) }, "", ""},
		{"a cat behind a line", 0, func(l []impl.DNode) []impl.DNode { return catDoc(lineDoc(), l) }, " ", ""},
		{"a cat before a line", 0, func(l []impl.DNode) []impl.DNode { return catDoc(l, lineDoc()) }, "", " "},
		{"a cat between texts", 0, func(l []impl.DNode) []impl.DNode { return catDoc(textDoc("x"), l, textDoc("yz")) }, "x", "yz"},
		{"a cat beside groups", 2, func(l []impl.DNode) []impl.DNode { return catDoc(groupDoc(lineDoc()), l, groupDoc(textDoc("g"))) }, " ", "g"},
	}
}

// core is a document with its text on one line, if it has one.
type core struct {
	doc  []impl.DNode
	flat string
	ok   bool
}

func cores() []core {
	return []core{
		{hardDoc(), "", false},
		{lineDoc(), " ", true},
		{textDoc("t"), "t", true},
		{textDoc(""), "", true},
		{catDoc(), "", true},
		{catDoc(hardDoc(), lineDoc()), "", false},
		{catDoc(lineDoc(), hardDoc()), "", false},
		{catDoc(hardDoc(), hardDoc()), "", false},
		{catDoc(textDoc("u"), hardDoc(), textDoc("v")), "", false},
		{catDoc(lineDoc(), lineDoc()), "  ", true},
	}
}

// checkWrapped checks a document within each choice of up to most documents around it.
func checkWrapped(t *testing.T, x core, groups int, most int) {
	t.Helper()
	checkDoc(t, x.doc, x.flat, x.ok)
	if got := impl.GroupsIn(x.doc); got != groups {
		t.Errorf("GroupsIn of %s is %d, want %d", docShown(x.doc), got, groups)
	}
	if most == 0 {
		return
	}
	for _, w := range wraps() {
		around := core{doc: w.doc(x.doc), ok: x.ok}
		if x.ok {
			around.flat = w.before + x.flat + w.after
		}
		checkWrapped(t, around, groups+w.groups, most-1)
		if t.Failed() {
			t.Fatal(w.name)
		}
	}
}

// TestP11GroupWithForcedBreak has a forced line break directly in a group, below other
// nodes, in groups in groups, beside lines and without them, and in no group; and the
// same documents without it.
func TestP11GroupWithForcedBreak(t *testing.T) {
	t.Parallel()
	for _, x := range cores() {
		checkWrapped(t, x, 0, 4)
	}
}

func TestP11ForcedBreakExamples(t *testing.T) {
	for _, x := range []struct {
		name   string
		l      []impl.DNode
		groups int
	}{
		{"alone", hardDoc(), 0},
		{"directly in a group", groupDoc(hardDoc()), 1},
		{"below a nest", groupDoc(nestDoc(40, hardDoc())), 1},
		{"below a cat", groupDoc(catDoc(textDoc("a"), hardDoc(), textDoc("b"))), 1},
		{"below a nest and a cat", groupDoc(nestDoc(0, catDoc(hardDoc()))), 1},
		{"beside a line", groupDoc(catDoc(hardDoc(), lineDoc())), 1},
		{"in a group inside a group", groupDoc(catDoc(textDoc("a"), groupDoc(hardDoc()))), 2},
		{"in the group around a group", groupDoc(catDoc(groupDoc(lineDoc()), hardDoc())), 2},
		{"behind a group", catDoc(groupDoc(lineDoc()), hardDoc()), 1},
		{"before a group", catDoc(hardDoc(), groupDoc(lineDoc())), 1},
	} {
		checkDoc(t, x.l, "", false)
		if got := impl.GroupsIn(x.l); got != x.groups || t.Failed() {
			t.Errorf("%s: GroupsIn %d, want %d", x.name, got, x.groups)
		}
	}
}

// docMaker makes random documents.
type docMaker struct {
	random *rand.Rand
}

// text has no newline.
func (m docMaker) text() string {
	b := make([]byte, m.random.IntN(6))
	for i := range b {
		b[i] = byte(m.random.IntN(256))
		if m.random.IntN(2) == 0 {
			b[i] = " \tab\r\\n\x00"[m.random.IntN(8)]
		}
		if b[i] == 10 {
			b[i] = 11
		}
	}
	return string(b)
}

// node is one that may have so many kids, and is no DHard.
func (m docMaker) node(kids int) impl.DNode {
	switch pick := m.random.IntN(5); {
	case kids == 0 && pick < 3:
		return impl.DNode{Kind: impl.DText, Text: m.text()}
	case kids == 0 && pick < 4:
		return impl.DNode{Kind: impl.DLine}
	case kids == 1 && pick < 2:
		return impl.DNode{Kind: impl.DNest, N: m.random.IntN(41)}
	case kids == 1 && pick < 4:
		return impl.DNode{Kind: impl.DGroup}
	}
	return impl.DNode{Kind: impl.DCat}
}

// doc has n nodes and no DHard; a greater reach makes it flatter.
func (m docMaker) doc(n, reach int) []impl.DNode {
	tree, _ := randomTree(m.random, n, reach).postorder(nil, nil)
	l := make([]impl.DNode, n)
	for i := range l {
		l[i] = m.node(len(tree[i].Kids))
		l[i].Kids = tree[i].Kids
	}
	return l
}

// walkedText is the text of node i on one line, and the number of groups around each
// leaf, written along the tree and not along the list.
func walkedText(l []impl.DNode, i int, groups int, around map[int]int) string {
	n := l[i]
	if len(n.Kids) == 0 {
		around[i] = groups
	}
	if n.Kind == impl.DLine {
		return " "
	}
	text := n.Text
	if n.Kind == impl.DGroup {
		groups++
	}
	for _, kid := range n.Kids {
		text += walkedText(l, kid, groups, around)
	}
	return text
}

// TestP11RandomDocs puts one DHard in the place of each leaf of documents that have
// none.
func TestP11RandomDocs(t *testing.T) {
	t.Parallel()
	m := docMaker{rand.New(rand.NewPCG(15, 1))}
	c := newDocCheck()
	places := map[int]int{}
	for round := range 600 {
		l := m.doc(1+m.random.IntN(60), 1+round%12)
		around := map[int]int{}
		text := walkedText(l, len(l)-1, 0, around)
		checkDoc(t, l, text, true)
		c.check(t, l)
		for leaf, groups := range around {
			places[min(groups, 3)]++
			before := l[leaf]
			l[leaf] = impl.DNode{Kind: impl.DHard}
			checkDoc(t, l, "", false)
			l[leaf] = before
		}
		checkDoc(t, l, text, true)
	}
	for groups := range 4 {
		if places[groups] < 300 {
			t.Errorf("only %d forced line breaks are in %d groups", places[groups], groups)
		}
	}
}

// TestP11RandomDocsWithBreaks has any number of DHard nodes in a document.
func TestP11RandomDocsWithBreaks(t *testing.T) {
	t.Parallel()
	m := docMaker{rand.New(rand.NewPCG(15, 2))}
	c := newDocCheck()
	for round := range 1500 {
		l := m.doc(1+m.random.IntN(40), 1+round%9)
		for i := range l {
			if len(l[i].Kids) == 0 && m.random.IntN(1+round%7) == 0 {
				l[i] = impl.DNode{Kind: impl.DHard}
			}
		}
		if !c.check(t, l) {
			t.Errorf("%s is invalid", docShown(l))
		}
	}
}

// changedDoc has one random change in one of its nodes.
func (m docMaker) changedDoc(l []impl.DNode) []impl.DNode {
	changed := clonedDoc(l)
	n := &changed[m.random.IntN(len(l))]
	switch m.random.IntN(6) {
	case 0:
		n.Kind = m.random.IntN(9) - 1
	case 1:
		n.N = []int{-1, 0, 1, 40, 41, math.MinInt, math.MaxInt}[m.random.IntN(7)]
	case 2:
		n.Text += m.text()
	case 3:
		n.Text = m.text() + "\n" + m.text()
	default:
		n.Kids = changedKids(m.random, n.Kids, len(l))
	}
	return changed
}

func TestP11ChangedDocs(t *testing.T) {
	t.Parallel()
	m := docMaker{rand.New(rand.NewPCG(15, 3))}
	c := newDocCheck()
	valid, invalid := 0, 0
	for round := range 12000 {
		l := m.doc(1+m.random.IntN(30), 1+round%9)
		changed := m.changedDoc(l)
		if c.check(t, changed) {
			valid++
		} else {
			invalid++
		}
		if same := equalDocs(l, changed); impl.SameDoc(l, changed) != same || impl.SameDoc(changed, l) != same {
			t.Errorf("SameDoc of %s and %s is %v", docShown(l), docShown(changed), !same)
		}
	}
	if valid < 1000 || invalid < 6000 {
		t.Errorf("%d valid and %d invalid documents", valid, invalid)
	}
}

func docKinds() []int {
	l := []int{math.MinInt, -99, 12, 33, 45, 256 + 1, math.MaxInt}
	for kind := -3; kind <= 9; kind++ {
		l = append(l, kind)
	}
	return l
}

func docNumbers() []int {
	return []int{math.MinInt, -41, -40, -2, -1, 0, 1, 2, 4, 39, 40, 41, 42, 296, maxDocWanted, math.MaxInt}
}

func docTexts() []string {
	return []string{
		"", "a", " ", "\t ", "\r", "\x00", "\v\f", "\x80\xff", "\u0085\u2028", "\\n", "long text",
		"\n", "\na", "a\n", "a\nb", "\r\n", "\n\n", "\xff\n", "\\\n", strings.Repeat("a", 5000) + "\n",
	}
}

// TestP11DocFields has each node as a document, with texts as its kids, and as one
// node among others.
func TestP11DocFields(t *testing.T) {
	t.Parallel()
	c := newDocCheck()
	for _, kind := range docKinds() {
		for _, n := range docNumbers() {
			for _, text := range docTexts() {
				for kids := range 5 {
					l := joinedDoc(impl.DNode{Kind: kind, N: n, Text: text}, slices.Repeat([][]impl.DNode{textDoc("k")}, kids)...)
					valid := c.fieldsWanted(l[kids])
					if c.check(t, l) != valid || c.check(t, groupDoc(catDoc(lineDoc(), l, textDoc("z")))) != valid {
						t.Fatalf("%s: want valid %v", docShown(l), valid)
					}
				}
			}
		}
	}
}

// TestP11DocFieldTable names each way of being invalid because of one field.
func TestP11DocFieldTable(t *testing.T) {
	for _, x := range []struct {
		name string
		n    impl.DNode
		kids int
		ok   bool
	}{
		{"kind 0", impl.DNode{}, 0, false},
		{"a negative kind", impl.DNode{Kind: -1}, 0, false},
		{"the kind behind DCat", impl.DNode{Kind: 7}, 0, false},
		{"a text", impl.DNode{Kind: 1, Text: "a"}, 0, true},
		{"an empty text", impl.DNode{Kind: 1}, 0, true},
		{"a text of blanks", impl.DNode{Kind: 1, Text: " \t "}, 0, true},
		{"a text of high bytes", impl.DNode{Kind: 1, Text: "\x80\xc3\xff"}, 0, true},
		{"a text with a carriage return", impl.DNode{Kind: 1, Text: "a\r"}, 0, true},
		{"a newline", impl.DNode{Kind: 1, Text: "\n"}, 0, false},
		{"a newline before a text", impl.DNode{Kind: 1, Text: "\nab"}, 0, false},
		{"a newline in a text", impl.DNode{Kind: 1, Text: "a\nb"}, 0, false},
		{"a newline behind a text", impl.DNode{Kind: 1, Text: "ab\n"}, 0, false},
		{"a text with a kid", impl.DNode{Kind: 1, Text: "a"}, 1, false},
		{"a text with an N", impl.DNode{Kind: 1, Text: "a", N: 1}, 0, false},
		{"a text with a negative N", impl.DNode{Kind: 1, N: -1}, 0, false},
		{"a line", impl.DNode{Kind: 2}, 0, true},
		{"a line with a kid", impl.DNode{Kind: 2}, 1, false},
		{"a line with a text", impl.DNode{Kind: 2, Text: " "}, 0, false},
		{"a line with an N", impl.DNode{Kind: 2, N: 1}, 0, false},
		{"a line with a negative N", impl.DNode{Kind: 2, N: -1}, 0, false},
		{"a forced break", impl.DNode{Kind: 3}, 0, true},
		{"a forced break with a kid", impl.DNode{Kind: 3}, 1, false},
		{"a forced break with a text", impl.DNode{Kind: 3, Text: "a"}, 0, false},
		{"a forced break with a newline", impl.DNode{Kind: 3, Text: "\n"}, 0, false},
		{"a forced break with an N", impl.DNode{Kind: 3, N: 4}, 0, false},
		{"a forced break with a negative N", impl.DNode{Kind: 3, N: -1}, 0, false},
		{"a nest", impl.DNode{Kind: 4, N: 4}, 1, true},
		{"a nest of 0", impl.DNode{Kind: 4}, 1, true},
		{"a nest of 40", impl.DNode{Kind: 4, N: 40}, 1, true},
		{"a nest of 41", impl.DNode{Kind: 4, N: 41}, 1, false},
		{"a nest of -1", impl.DNode{Kind: 4, N: -1}, 1, false},
		{"a nest of nothing", impl.DNode{Kind: 4, N: 4}, 0, false},
		{"a nest of two", impl.DNode{Kind: 4, N: 4}, 2, false},
		{"a nest with a text", impl.DNode{Kind: 4, N: 4, Text: "a"}, 1, false},
		{"a group", impl.DNode{Kind: 5}, 1, true},
		{"a group of nothing", impl.DNode{Kind: 5}, 0, false},
		{"a group of two", impl.DNode{Kind: 5}, 2, false},
		{"a group with a text", impl.DNode{Kind: 5, Text: "a"}, 1, false},
		{"a group with an N", impl.DNode{Kind: 5, N: 1}, 1, false},
		{"a group with a negative N", impl.DNode{Kind: 5, N: -1}, 1, false},
		{"a cat of nothing", impl.DNode{Kind: 6}, 0, true},
		{"a cat of one", impl.DNode{Kind: 6}, 1, true},
		{"a cat of two", impl.DNode{Kind: 6}, 2, true},
		{"a cat of many", impl.DNode{Kind: 6}, maxDocWanted - 1, true},
		{"a cat with a text", impl.DNode{Kind: 6, Text: "a"}, 2, false},
		{"a cat of nothing with a text", impl.DNode{Kind: 6, Text: "a"}, 0, false},
		{"a cat with an N", impl.DNode{Kind: 6, N: 1}, 2, false},
		{"a cat with a negative N", impl.DNode{Kind: 6, N: -1}, 0, false},
	} {
		l := joinedDoc(x.n, slices.Repeat([][]impl.DNode{textDoc("k")}, x.kids)...)
		if valid := newDocCheck().check(t, l); valid != x.ok || impl.DocOk(l) != x.ok || t.Failed() {
			t.Errorf("%s: DocOk %v, want %v", x.name, impl.DocOk(l), x.ok)
		}
	}
}

// TestP11DocTextBytes has each byte alone and at each place of a text.
func TestP11DocTextBytes(t *testing.T) {
	for b := range 256 {
		for _, around := range []string{"|", "ab|", "|ab", "a|b", "|\xff", "\xc2|"} {
			text := strings.Replace(around, "|", string([]byte{byte(b)}), 1)
			if b == 10 {
				checkNoDoc(t, textDoc(text))
				checkNoDoc(t, catDoc(lineDoc(), groupDoc(textDoc(text))))
				continue
			}
			checkDoc(t, textDoc(text), text, true)
			checkDoc(t, catDoc(lineDoc(), groupDoc(textDoc(text))), " "+text, true)
		}
	}
	for n := range 40 {
		text := []byte(strings.Repeat("a", 40))
		text[n] = 10
		checkNoDoc(t, textDoc(string(text)))
	}
}

// shapedDoc has a cat, which may have any kids, in the place of each node.
func shapedDoc(l []impl.Node) []impl.DNode {
	var doc []impl.DNode
	for _, n := range l {
		doc = append(doc, impl.DNode{Kind: impl.DCat, Kids: n.Kids})
	}
	return doc
}

func TestP11DocOrder(t *testing.T) {
	c := newDocCheck()
	for _, x := range invalidShapes() {
		l := shapedDoc(x.l)
		if c.check(t, l) || impl.DocOk(l) || t.Failed() {
			t.Errorf("%s: DocOk(%s) is %v", x.name, docShown(l), impl.DocOk(l))
		}
	}
}

func TestP11DocOrderOfShortLists(t *testing.T) {
	t.Parallel()
	for _, choices := range shortLists() {
		eachList(choices, func(l []impl.Node) {
			doc := shapedDoc(l)
			text, ok := impl.FlatText(doc)
			if want := shapeWanted(l); impl.DocOk(doc) != want || ok != want || text != "" {
				t.Fatalf("%s: DocOk %v, FlatText %q, %v, want %v", docShown(doc), impl.DocOk(doc), text, ok, want)
			}
		})
	}
}

// TestP11SwappedDocNodes has the nodes of a document in another order.
func TestP11SwappedDocNodes(t *testing.T) {
	c := newDocCheck()
	for _, l := range [][]impl.DNode{docExample(), catDoc(nestDoc(2, lineDoc()), groupDoc(hardDoc()), textDoc("x"), catDoc())} {
		for i := range l {
			for k := range i {
				m := clonedDoc(l)
				m[i], m[k] = m[k], m[i]
				c.check(t, m)
				if impl.SameDoc(l, m) || impl.SameDoc(m, l) {
					t.Errorf("SameDoc of %s with nodes %d and %d swapped", docShown(l), i, k)
				}
			}
			c.check(t, l[:i])
			c.check(t, l[i:])
			c.check(t, slices.Delete(clonedDoc(l), i, i+1))
		}
	}
}

// smallNodes has nodes of all kinds and of some that are none, with these kids.
func smallNodes(numbers []int, texts []string, kids [][]int) []impl.DNode {
	var l []impl.DNode
	for kind := range 8 {
		for _, n := range numbers {
			for _, text := range texts {
				for _, k := range kids {
					l = append(l, impl.DNode{Kind: kind, N: n, Text: text, Kids: k})
				}
			}
		}
	}
	return l
}

// TestP11EachShortDoc finds the valid documents among all lists of up to three nodes
// over some fields.
func TestP11EachShortDoc(t *testing.T) {
	t.Parallel()
	c := newDocCheck()
	var check func(begun []impl.DNode, rest ...[]impl.DNode)
	check = func(begun []impl.DNode, rest ...[]impl.DNode) {
		if len(rest) == 0 {
			c.check(t, begun)
			return
		}
		for _, n := range rest[0] {
			check(append(begun[:len(begun):len(begun)], n), rest[1:]...)
		}
	}
	check(nil, smallNodes([]int{-1, 0, 1, 40, 41}, []string{"", "a", "\n"}, kidChoices(-1, 1, 2)))
	one := smallNodes([]int{0, 1}, []string{"", "a", "\n"}, kidChoices(0, 0, 1))
	check(nil, one, smallNodes([]int{0, 40, 41}, []string{"", "b", "b\n"}, kidChoices(0, 1, 2)))
	few := smallNodes([]int{0, 1}, []string{"", "a"}, kidChoices(0, 0, 0))
	check(nil, few, smallNodes([]int{0, 1}, []string{"", "b"}, kidChoices(0, 0, 1)), smallNodes([]int{0, 1}, []string{""}, kidChoices(0, 1, 2)))
}

// stacked has n nodes below each other, nests and groups by turns, above this one.
func stacked(n int, leaf impl.DNode) []impl.DNode {
	l := []impl.DNode{leaf}
	for len(l) < n {
		kids := []int{len(l) - 1}
		l = append(l, impl.DNode{Kind: impl.DGroup, Kids: kids}, impl.DNode{Kind: impl.DNest, N: len(l) % 41, Kids: []int{len(l)}})
	}
	return l[:n]
}

func TestP11DocLimits(t *testing.T) {
	t.Parallel()
	c := newDocCheck()
	m := docMaker{rand.New(rand.NewPCG(15, 4))}
	text := impl.DNode{Kind: impl.DText, Text: "ab"}
	for _, n := range []int{1, 2, 40, 41, 42, 399, 400, 401, maxDocWanted - 1, maxDocWanted, maxDocWanted + 1, maxDocWanted + 2, 2 * maxDocWanted, 100000} {
		row := catDoc(slices.Repeat([][]impl.DNode{{text}}, n-1)...)
		for _, l := range [][]impl.DNode{row, stacked(n, text), stacked(n, impl.DNode{Kind: impl.DHard}), m.doc(n, 20)} {
			if len(l) != n {
				t.Fatalf("%d nodes, want %d", len(l), n)
			}
			valid := n <= maxDocWanted
			if c.okWanted(l) != valid || impl.DocOk(l) != valid {
				t.Errorf("%d nodes: DocOk %v", n, impl.DocOk(l))
			}
			c.check(t, l)
			c.check(t, l[:n-1])
			c.check(t, l[1:])
		}
	}
	row := catDoc(slices.Repeat([][]impl.DNode{{text}}, maxDocWanted-1)...)
	checkDoc(t, row, strings.Repeat("ab", maxDocWanted-1), true)
	checkDoc(t, stacked(maxDocWanted, text), "ab", true)
	checkNoDoc(t, groupDoc(row))
	checkNoDoc(t, nil)
	checkNoDoc(t, []impl.DNode{})
}

func TestP11FlatText(t *testing.T) {
	for _, x := range []struct {
		l    []impl.DNode
		want string
	}{
		{textDoc(""), ""},
		{catDoc(), ""},
		{catDoc(catDoc(), catDoc()), ""},
		{catDoc(textDoc(""), textDoc(""), textDoc("")), ""},
		{groupDoc(nestDoc(4, catDoc(textDoc(""), textDoc("")))), ""},
		{lineDoc(), " "},
		{groupDoc(lineDoc()), " "},
		{nestDoc(40, lineDoc()), " "},
		{catDoc(lineDoc(), lineDoc(), lineDoc()), "   "},
		{catDoc(textDoc(" "), lineDoc(), textDoc(" ")), "   "},
		{catDoc(textDoc("a"), textDoc("b"), textDoc("a")), "aba"},
		{catDoc(textDoc("f("), groupDoc(nestDoc(4, catDoc(textDoc("x"), textDoc(","), lineDoc(), textDoc("y")))), textDoc(")")), "f(x, y)"},
		{catDoc(nestDoc(4, catDoc(textDoc("1"), textDoc("2"))), groupDoc(catDoc(textDoc("3"), groupDoc(textDoc("4")))), textDoc("5")), "12345"},
	} {
		checkDoc(t, x.l, x.want, true)
	}
}

func TestP11GroupsIn(t *testing.T) {
	for _, x := range []struct {
		name string
		l    []impl.DNode
		want int
	}{
		{"no nodes", nil, 0},
		{"an empty list", []impl.DNode{}, 0},
		{"no group", catDoc(textDoc("a"), lineDoc(), hardDoc(), nestDoc(5, catDoc())), 0},
		{"one group", groupDoc(textDoc("a")), 1},
		{"groups beside each other", catDoc(groupDoc(textDoc("a")), groupDoc(lineDoc()), lineDoc(), groupDoc(hardDoc())), 3},
		{"groups in groups", groupDoc(groupDoc(nestDoc(1, groupDoc(textDoc("a"))))), 3},
		{"only groups", []impl.DNode{{Kind: impl.DGroup}, {Kind: impl.DGroup}, {Kind: impl.DGroup}}, 3},
		{"invalid groups", []impl.DNode{{Kind: impl.DGroup, N: -4, Text: "\n", Kids: []int{0, 7, -1}}}, 1},
		{"no root", docExample()[4:], 1},
		{"kinds that are none", []impl.DNode{{Kind: -5}, {Kind: 0}, {Kind: 7}, {Kind: 55}, {Kind: math.MinInt + 5}}, 0},
		{"an N of 5", []impl.DNode{{Kind: impl.DNest, N: 5, Text: "5", Kids: []int{5}}}, 0},
		{"many groups", slices.Repeat(docExample(), 5000), 5000},
		{"too many nodes", stacked(maxDocWanted+3, impl.DNode{Kind: impl.DText}), maxDocWanted/2 + 1},
	} {
		if got := impl.GroupsIn(x.l); got != x.want {
			t.Errorf("%s: GroupsIn %d, want %d", x.name, got, x.want)
		}
	}
}

func TestP11SameDoc(t *testing.T) {
	if !impl.SameDoc(nil, nil) || !impl.SameDoc(nil, []impl.DNode{}) || !impl.SameDoc([]impl.DNode{}, nil) {
		t.Error("lists without nodes")
	}
	l := catDoc(nestDoc(7, docExample()), hardDoc(), textDoc("a"))
	changes := map[string]func(n *impl.DNode){
		"Kind":       func(n *impl.DNode) { n.Kind++ },
		"N":          func(n *impl.DNode) { n.N++ },
		"negative N": func(n *impl.DNode) { n.N = -1 - n.N },
		"Text":       func(n *impl.DNode) { n.Text += "a" },
		"a byte":     func(n *impl.DNode) { n.Text += "\x00" },
		"more kids":  func(n *impl.DNode) { n.Kids = append(n.Kids, 0) },
		"a kid -1":   func(n *impl.DNode) { n.Kids = append([]int{-1}, n.Kids...) },
	}
	for i := range l {
		for name, change := range changes {
			m := clonedDoc(l)
			change(&m[i])
			if impl.SameDoc(l, m) || impl.SameDoc(m, l) || !impl.SameDoc(m, m) || !impl.SameDoc(m, clonedDoc(m)) {
				t.Errorf("%s of node %d", name, i)
			}
		}
		for k := range l[i].Kids {
			m := clonedDoc(l)
			m[i].Kids[k]++
			if impl.SameDoc(l, m) || impl.SameDoc(m, l) {
				t.Errorf("kid %d of node %d", k, i)
			}
			m[i].Kids = slices.Clone(l[i].Kids[:k])
			if impl.SameDoc(l, m) || impl.SameDoc(m, l) {
				t.Errorf("%d kids of node %d", k, i)
			}
		}
	}
}

func TestP11SameDocOfOtherLengths(t *testing.T) {
	l := docExample()
	for n := range len(l) {
		if impl.SameDoc(l, l[:n]) || impl.SameDoc(l[:n], l) || impl.SameDoc(l, l[len(l)-n:]) || impl.SameDoc(l, append(clonedDoc(l), l[n])) {
			t.Errorf("a list of %d nodes", n)
		}
	}
	if impl.SameDoc(nil, textDoc("")) || impl.SameDoc(textDoc(""), []impl.DNode{}) || impl.SameDoc(nil, []impl.DNode{{}}) {
		t.Error("a list without nodes and one with one")
	}
}

func TestP11SameDocOfAnyLists(t *testing.T) {
	for _, l := range [][]impl.DNode{
		{{}},
		{{Kind: -1, N: math.MinInt, Text: "\n", Kids: []int{math.MinInt, math.MaxInt}}},
		{{Kind: impl.DCat, Kids: []int{0}}},
		{{Kind: impl.DCat, Kids: []int{1}}, {Kind: impl.DCat, Kids: []int{0}}},
		docExample()[1:],
		slices.Repeat(docExample(), 1000),
	} {
		m := clonedDoc(l)
		if !impl.SameDoc(l, m) || !impl.SameDoc(l, l) {
			t.Errorf("%s is not the same as a copy", docShown(l))
		}
		m[len(m)-1].N++
		if impl.SameDoc(l, m) || impl.SameDoc(m, l) {
			t.Errorf("%s is the same as with another N", docShown(l))
		}
	}
	withNil, withEmpty := textDoc("a"), []impl.DNode{{Kind: impl.DText, Text: "a", Kids: []int{}}}
	if !impl.SameDoc(withNil, withEmpty) || !impl.SameDoc(withEmpty, withNil) {
		t.Error("nil kids and no kids")
	}
	checkDoc(t, withEmpty, "a", true)
}

// TestP11DocArgumentsStay looks for changes in the nodes and in the unused capacity
// of their lists.
func TestP11DocArgumentsStay(t *testing.T) {
	mark := impl.DNode{Kind: 77, N: 77, Text: "unused", Kids: []int{77}}
	for _, l := range [][]impl.DNode{docExample(), docExample()[:4], docExample()[1:], groupDoc(hardDoc()), nestDoc(41, lineDoc()), {}} {
		long := append(clonedDoc(l), clonedDoc([]impl.DNode{mark, mark})...)
		for i := range l {
			long[i].Kids = append(long[i].Kids, 77, 77)[:len(l[i].Kids)]
		}
		short := long[:len(l)]
		impl.DocOk(short)
		impl.FlatText(short)
		impl.GroupsIn(short)
		impl.SameDoc(short, long)
		impl.SameDoc(long, short)
		if !equalDocs(short, l) || !equalDocs(long[len(l):], []impl.DNode{mark, mark}) {
			t.Errorf("%s was changed", docShown(l))
		}
		for i := range short {
			if n := len(l[i].Kids); !slices.Equal(short[i].Kids[n:n+2], []int{77, 77}) {
				t.Errorf("the capacity of the kids of node %d of %s was changed", i, docShown(l))
			}
		}
	}
}
