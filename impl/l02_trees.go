package impl

import (
	"slices"
	"strings"
)

const (
	MaxNodes = 15
	MaxValue = 1000000000
)

type Node struct {
	Feat  int64
	Cut   int64
	Left  int64
	Right int64
	Miss  bool
	Value int64
}

func (n Node) isLeaf() bool {
	return n.Left == 0
}

func (n Node) leafOk() bool {
	return n == Node{Value: n.Value} && n.Value >= -MaxValue && n.Value <= MaxValue
}

// splitOk checks what a split needs apart from its two following nodes.
func (n Node) splitOk(feats int64) bool {
	return n.Feat >= 0 && n.Feat < feats && n.Cut >= -MaxFeat && n.Cut <= MaxFeat && n.Value == 0
}

// goesLeft reports where a split sends a document with the number x at Feat.
func (n Node) goesLeft(x int64) bool {
	if x == Missing {
		return n.Miss
	}
	return x <= n.Cut
}

// twig is a node of a tree with the parts of the tree behind it, which are nil
// for a leaf.
type twig struct {
	node  Node
	index int64
	left  *twig
	right *twig
}

// loose holds, by index, the twigs that belong to no split so far.
type loose [MaxNodes]*twig

// take returns a twig that belongs to no split so far, and nil if there is
// none with that index; afterwards it belongs to one.
func (l *loose) take(index int64) *twig {
	if index < 0 || index >= MaxNodes {
		return nil
	}
	w := l[index]
	l[index] = nil
	return w
}

// treeOf returns the first node of a tree, or nil if t is not a tree.
// The nodes are joined from the last one to the first one: a split can then
// only take nodes with greater indexes.
func treeOf(t []Node, feats int64) *twig {
	if feats < 1 || feats > MaxFeats || len(t) < 1 || len(t) > MaxNodes {
		return nil
	}
	var rest loose
	for i := int64(len(t)) - 1; i >= 0; i-- {
		rest[i] = twigOf(t[i], i, feats, &rest)
		if rest[i] == nil {
			return nil
		}
	}
	first := rest.take(0)
	if rest != (loose{}) {
		return nil
	}
	return first
}

func twigOf(n Node, index int64, feats int64, rest *loose) *twig {
	w := &twig{node: n, index: index}
	if n.isLeaf() {
		if !n.leafOk() {
			return nil
		}
		return w
	}
	w.left = rest.take(n.Left)
	w.right = rest.take(n.Right)
	if !n.splitOk(feats) || w.left == nil || w.right == nil {
		return nil
	}
	return w
}

// next returns the node behind w on the path of d, or nil behind a leaf.
func (w *twig) next(d doc) *twig {
	switch {
	case w.node.isLeaf():
		return nil
	case w.node.goesLeft(d.nums[w.node.Feat]):
		return w.left
	}
	return w.right
}

func (w *twig) valueRange() (int64, int64) {
	if w.node.isLeaf() {
		return w.node.Value, w.node.Value
	}
	leftMin, leftMax := w.left.valueRange()
	rightMin, rightMax := w.right.valueRange()
	return min(leftMin, rightMin), max(leftMax, rightMax)
}

func (w *twig) depth() int64 {
	if w.node.isLeaf() {
		return 0
	}
	return 1 + max(w.left.depth(), w.right.depth())
}

// leaves returns the leaves from left to right, which need not be ascending.
func (w *twig) leaves() []int64 {
	if w.node.isLeaf() {
		return []int64{w.index}
	}
	return append(w.left.leaves(), w.right.leaves()...)
}

func TreeOk(t []Node, feats int64) bool {
	return treeOf(t, feats) != nil
}

func PathOf(t []Node, d []int64) []int64 {
	x, ok := docOf(d)
	if !ok {
		return nil
	}
	var path []int64
	for w := treeOf(t, x.size); w != nil; w = w.next(x) {
		path = append(path, w.index)
	}
	return path
}

func LeafOf(t []Node, d []int64) int64 {
	path := PathOf(t, d)
	if len(path) == 0 {
		return -1
	}
	return path[len(path)-1]
}

func RangeOf(t []Node) (int64, int64) {
	first := treeOf(t, MaxFeats)
	if first == nil {
		return 0, 0
	}
	return first.valueRange()
}

func DepthOf(t []Node) int64 {
	first := treeOf(t, MaxFeats)
	if first == nil {
		return -1
	}
	return first.depth()
}

func LeavesOf(t []Node) []int64 {
	first := treeOf(t, MaxFeats)
	if first == nil {
		return nil
	}
	leaves := first.leaves()
	slices.Sort(leaves)
	return leaves
}

func TreeText(t []Node) string {
	if !TreeOk(t, MaxFeats) {
		return ""
	}
	words := make([]string, len(t))
	for i, n := range t {
		words[i] = n.text()
	}
	return strings.Join(words, " ")
}

func (n Node) text() string {
	if n.isLeaf() {
		return "l" + decimal(n.Value)
	}
	side := "r"
	if n.Miss {
		side = "l"
	}
	parts := []string{decimal(n.Feat), decimal(n.Cut), decimal(n.Left), decimal(n.Right), side}
	return "s" + strings.Join(parts, ":")
}

func ReadTree(s string) ([]Node, bool) {
	// One part more than a tree can have is enough to reject the text.
	words := strings.SplitN(s, " ", MaxNodes+1)
	t := make([]Node, len(words))
	for i, word := range words {
		n, ok := readNode(word)
		if !ok {
			return nil, false
		}
		t[i] = n
	}
	if !TreeOk(t, MaxFeats) {
		return nil, false
	}
	return t, true
}

func readNode(word string) (Node, bool) {
	if rest, ok := strings.CutPrefix(word, "l"); ok {
		value, ok := readDecimal(rest)
		return Node{Value: value}, ok
	}
	if rest, ok := strings.CutPrefix(word, "s"); ok {
		return readSplit(rest)
	}
	return Node{}, false
}

// readSplit rejects a Left of 0: such a node is a leaf, and text writes it as one.
func readSplit(rest string) (Node, bool) {
	const numbers = 4
	parts := strings.SplitN(rest, ":", numbers+1)
	if len(parts) != numbers+1 {
		return Node{}, false
	}
	var nums [numbers]int64
	for i := range nums {
		x, ok := readDecimal(parts[i])
		if !ok {
			return Node{}, false
		}
		nums[i] = x
	}
	n := Node{Feat: nums[0], Cut: nums[1], Left: nums[2], Right: nums[3], Miss: parts[numbers] == "l"}
	if n.isLeaf() || !n.Miss && parts[numbers] != "r" {
		return Node{}, false
	}
	return n, true
}
