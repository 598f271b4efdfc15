package tests

import (
	"math/rand"
	"slices"
	"strconv"
	"strings"
	"testing"

	"loop.example/g00762/impl"
)

const exampleTree = "s0:5:1:4:l s1:-2:2:3:r l10 l-4 l7"

// fullTree has as many nodes as a tree may have.
const fullTree = "s0:0:1:2:l s1:1:3:4:r s2:2:5:6:l s3:3:7:8:r s4:4:9:10:l s5:5:11:12:r s0:6:13:14:l l1 l2 l3 l4 l5 l6 l7 l8"

// chainTree has as many splits on one path as a tree may have.
const chainTree = "s0:0:1:2:l l1 s0:1:3:4:l l2 s0:2:5:6:l l3 s0:3:7:8:l l4 s0:4:9:10:l l5 s0:5:11:12:l l6 s0:6:13:14:l l7 l8"

func tree(t *testing.T, s string) []impl.Node {
	t.Helper()
	x, ok := impl.ReadTree(s)
	if !ok {
		t.Fatalf("ReadTree(%q) is false", s)
	}
	return x
}

// badTrees are not trees for any number of features.
func badTrees() map[string][]impl.Node {
	leaf := impl.Node{}
	split := func(left, right int64) impl.Node { return impl.Node{Left: left, Right: right} }
	with := func(change func(n *impl.Node)) []impl.Node {
		t := []impl.Node{{Cut: 1, Left: 1, Right: 2}, leaf, leaf}
		change(&t[0])
		return t
	}
	leafWith := func(n impl.Node) []impl.Node { return []impl.Node{split(1, 2), leaf, n} }
	chain := make([]impl.Node, 17)
	for i := range int64(8) {
		chain[i] = split(2*i+1, 2*i+2)
	}
	return map[string][]impl.Node{
		"nil":                             nil,
		"empty":                           {},
		"two first nodes":                 {leaf, leaf},
		"a leaf of no split behind":       {split(1, 2), leaf, leaf, leaf},
		"a leaf of no split between":      {split(1, 3), leaf, leaf, leaf},
		"a leaf of no split before":       {split(2, 3), leaf, leaf, leaf},
		"a split of no split":             {leaf, split(2, 3), leaf, leaf},
		"a split of no split, two trees":  {split(1, 2), leaf, leaf, split(4, 5), leaf, leaf},
		"a leaf of two splits":            {split(1, 2), split(3, 4), split(4, 5), leaf, leaf, leaf},
		"a leaf of two splits, one above": {split(1, 2), split(2, 3), leaf, leaf},
		"a leaf of two, another of none":  {split(1, 2), split(3, 4), split(3, 4), leaf, leaf, leaf},
		"two equal nodes":                 {split(1, 1), leaf},
		"two equal nodes, one of none":    {split(1, 1), leaf, leaf},
		"the split itself":                {split(1, 2), split(1, 3), leaf, leaf},
		"the split itself as Right":       {split(1, 2), split(3, 1), leaf, leaf},
		"an index that is not greater":    {split(2, 3), leaf, split(1, 4), leaf, leaf},
		"Right is the first node":         {split(1, 0), leaf},
		"Right is an earlier split":       {split(1, 4), split(2, 0), leaf, leaf, leaf},
		"Left is no node":                 {split(3, 2), leaf, leaf},
		"Right is no node":                {split(1, 3), leaf, leaf},
		"Left is negative":                {split(-1, 2), leaf, leaf},
		"Right is negative":               {split(1, -2), leaf, leaf},
		"Left is the least":               {split(minInt, 2), leaf, leaf},
		"Left is the greatest":            {split(maxInt, 2), leaf, leaf},
		"Right is the least":              {split(1, minInt), leaf, leaf},
		"Right is the greatest":           {split(1, maxInt), leaf, leaf},
		"Left is the limit":               {split(impl.MaxNodes, 2), leaf, leaf},
		"a leaf with Right":               leafWith(impl.Node{Right: 1}),
		"a single leaf with Right":        {{Right: 1}},
		"a leaf with Feat":                leafWith(impl.Node{Feat: 1}),
		"a leaf with Cut":                 leafWith(impl.Node{Cut: 1}),
		"a leaf with Miss":                leafWith(impl.Node{Miss: true}),
		"a leaf with too great a Value":   leafWith(impl.Node{Value: impl.MaxValue + 1}),
		"a leaf with too small a Value":   leafWith(impl.Node{Value: -impl.MaxValue - 1}),
		"a leaf with the least Value":     {{Value: minInt}},
		"a leaf with the greatest Value":  {{Value: maxInt}},
		"a split with Value":              with(func(n *impl.Node) { n.Value = 1 }),
		"a split with negative Value":     with(func(n *impl.Node) { n.Value = -1 }),
		"a split with negative Feat":      with(func(n *impl.Node) { n.Feat = -1 }),
		"a split with too great a Feat":   with(func(n *impl.Node) { n.Feat = impl.MaxFeats }),
		"a split with the least Feat":     with(func(n *impl.Node) { n.Feat = minInt }),
		"a split with too great a Cut":    with(func(n *impl.Node) { n.Cut = impl.MaxFeat + 1 }),
		"a split with too small a Cut":    with(func(n *impl.Node) { n.Cut = -impl.MaxFeat - 1 }),
		"a split with Missing as Cut":     with(func(n *impl.Node) { n.Cut = impl.Missing }),
		"too many nodes":                  chain,
		"very many nodes":                 make([]impl.Node, 1000),
	}
}

func TestTreeLimits(t *testing.T) {
	if impl.MaxNodes != 15 || impl.MaxValue != 1000000000 {
		t.Error("a constant is different")
	}
	for _, s := range []string{
		fullTree, chainTree, "l1000000000", "l-1000000000", "l0",
		"s0:1000000:1:2:l l0 l0", "s5:-1000000:2:1:r l0 l0",
	} {
		if got := impl.TreeText(tree(t, s)); got != s {
			t.Errorf("TreeText of %q is %q", s, got)
		}
	}
	if d := impl.DepthOf(tree(t, chainTree)); d != 7 {
		t.Error(d)
	}
	if d := impl.DepthOf(tree(t, fullTree)); d != 3 {
		t.Error(d)
	}
}

func TestTreeOkFeatures(t *testing.T) {
	for feat := range int64(impl.MaxFeats) {
		x := []impl.Node{{Feat: feat, Left: 1, Right: 2}, {}, {}}
		for feats := int64(-2); feats <= impl.MaxFeats+2; feats++ {
			want := feats > feat && feats <= impl.MaxFeats
			if got := impl.TreeOk(x, feats); got != want {
				t.Errorf("TreeOk of feature %d with %d features is %v", feat, feats, got)
			}
		}
	}
	for _, feats := range []int64{0, -1, impl.MaxFeats + 1, minInt, maxInt} {
		if impl.TreeOk([]impl.Node{{Value: 1}}, feats) {
			t.Errorf("TreeOk of a leaf with %d features", feats)
		}
	}
	for feats := int64(1); feats <= impl.MaxFeats; feats++ {
		if !impl.TreeOk([]impl.Node{{Value: 1}}, feats) {
			t.Errorf("a leaf is no tree with %d features", feats)
		}
	}
}

func TestBadTrees(t *testing.T) {
	d := []int64{0, 0, 0, 0, 0, 0}
	for name, x := range badTrees() {
		for feats := int64(0); feats <= impl.MaxFeats+1; feats++ {
			if impl.TreeOk(x, feats) {
				t.Errorf("%s: TreeOk with %d features", name, feats)
			}
		}
		if p := impl.PathOf(x, d); len(p) != 0 {
			t.Errorf("%s: PathOf returns %v", name, p)
		}
		if l := impl.LeafOf(x, d); l != -1 {
			t.Errorf("%s: LeafOf returns %d", name, l)
		}
		if lo, hi := impl.RangeOf(x); lo != 0 || hi != 0 {
			t.Errorf("%s: RangeOf returns %d, %d", name, lo, hi)
		}
		if n := impl.DepthOf(x); n != -1 {
			t.Errorf("%s: DepthOf returns %d", name, n)
		}
		if l := impl.LeavesOf(x); len(l) != 0 {
			t.Errorf("%s: LeavesOf returns %v", name, l)
		}
		if s := impl.TreeText(x); s != "" {
			t.Errorf("%s: TreeText returns %q", name, s)
		}
	}
}

func TestTreeExamples(t *testing.T) {
	x := tree(t, exampleTree)
	want := []impl.Node{
		{Feat: 0, Cut: 5, Left: 1, Right: 4, Miss: true}, {Feat: 1, Cut: -2, Left: 2, Right: 3},
		{Value: 10}, {Value: -4}, {Value: 7},
	}
	if !slices.Equal(x, want) || impl.TreeText(x) != exampleTree {
		t.Error(x)
	}
	if lo, hi := impl.RangeOf(x); lo != -4 || hi != 10 {
		t.Error(lo, hi)
	}
	if n := impl.DepthOf(x); n != 2 {
		t.Error(n)
	}
	if l := impl.LeavesOf(x); !slices.Equal(l, []int64{2, 3, 4}) {
		t.Error(l)
	}
	for _, s := range []string{"l1 l2", "s0:1:1:2:l"} {
		checkNoTree(t, s)
	}
}

func TestPathExamples(t *testing.T) {
	x := tree(t, exampleTree)
	gone := int64(impl.Missing)
	for _, c := range []struct{ d, path []int64 }{
		{[]int64{5, -2}, []int64{0, 1, 2}},
		{[]int64{6, -2}, []int64{0, 4}},
		{[]int64{5, -1}, []int64{0, 1, 3}},
		{[]int64{gone, -2}, []int64{0, 1, 2}},
		{[]int64{gone, gone}, []int64{0, 1, 3}},
		{[]int64{impl.MaxFeat, gone}, []int64{0, 4}},
		{[]int64{-impl.MaxFeat, -impl.MaxFeat}, []int64{0, 1, 2}},
		{[]int64{5, -2, 0, 0, 0, gone}, []int64{0, 1, 2}},
	} {
		if got := impl.PathOf(x, c.d); !slices.Equal(got, c.path) {
			t.Errorf("PathOf %v is %v", c.d, got)
		}
		if got := impl.LeafOf(x, c.d); got != c.path[len(c.path)-1] {
			t.Errorf("LeafOf %v is %d", c.d, got)
		}
	}
}

func TestPathAtLimits(t *testing.T) {
	gone := int64(impl.Missing)
	for _, c := range []struct {
		tree string
		x    int64
		leaf int64
	}{
		{"s0:1000000:1:2:r l1 l2", impl.MaxFeat, 1},
		{"s0:1000000:1:2:r l1 l2", gone, 2},
		{"s0:1000000:1:2:l l1 l2", gone, 1},
		{"s0:-1000000:1:2:l l1 l2", -impl.MaxFeat, 1},
		{"s0:-1000000:1:2:l l1 l2", -impl.MaxFeat + 1, 2},
		{"s0:-1000000:1:2:l l1 l2", gone, 1},
		{"s0:-1000000:2:1:l l1 l2", gone, 2},
	} {
		if got := impl.LeafOf(tree(t, c.tree), []int64{c.x}); got != c.leaf {
			t.Errorf("LeafOf(%q, %d) = %d", c.tree, c.x, got)
		}
	}
}

func TestPathRejects(t *testing.T) {
	x := tree(t, exampleTree)
	docs := append(badDocs(), []int64{5}, []int64{impl.Missing})
	for _, d := range docs {
		if p := impl.PathOf(x, d); len(p) != 0 {
			t.Errorf("PathOf %v is %v", d, p)
		}
		if l := impl.LeafOf(x, d); l != -1 {
			t.Errorf("LeafOf %v is %d", d, l)
		}
	}
	for _, d := range badDocs() {
		if l := impl.LeafOf(tree(t, "l3"), d); l != -1 {
			t.Errorf("LeafOf %v is %d", d, l)
		}
	}
}

func TestSingleLeaf(t *testing.T) {
	x := tree(t, "l-9")
	lo, hi := impl.RangeOf(x)
	if lo != -9 || hi != -9 || impl.DepthOf(x) != 0 || !slices.Equal(impl.LeavesOf(x), []int64{0}) {
		t.Error(lo, hi, impl.DepthOf(x), impl.LeavesOf(x))
	}
	if p := impl.PathOf(x, []int64{impl.Missing}); !slices.Equal(p, []int64{0}) || impl.LeafOf(x, []int64{1}) != 0 {
		t.Error(p)
	}
}

// The leaves are in ascending order also where Left is the greater index.
func TestLeavesAscend(t *testing.T) {
	x := tree(t, "s0:0:4:1:l s0:1:3:2:l l1 l2 s0:2:6:5:l l3 l4")
	if l := impl.LeavesOf(x); !slices.Equal(l, []int64{2, 3, 5, 6}) {
		t.Error(l)
	}
}

// A leaf counts for RangeOf also where no document ends at it, like node 4 here.
func TestRangeOfUnreachableLeaf(t *testing.T) {
	x := tree(t, "s0:5:1:2:l s0:9:3:4:l l0 l1 l-8")
	if lo, hi := impl.RangeOf(x); lo != -8 || hi != 1 {
		t.Error(lo, hi)
	}
}

func checkNoTree(t *testing.T, s string) {
	t.Helper()
	if x, ok := impl.ReadTree(s); ok || len(x) != 0 {
		t.Errorf("ReadTree(%q) = %v, %v", s, x, ok)
	}
}

func TestReadTreeBadForms(t *testing.T) {
	for _, word := range badNumbers() {
		checkNoTree(t, "l"+word)
		checkNoTree(t, "s0:5:1:2:l l1 l"+word)
		checkNoTree(t, "s"+word+":5:1:2:l l1 l2")
		checkNoTree(t, "s0:"+word+":1:2:l l1 l2")
		checkNoTree(t, "s0:5:"+word+":2:l l1 l2")
		checkNoTree(t, "s0:5:1:"+word+":l l1 l2")
	}
	for _, s := range []string{
		"", " ", "l", "s", "x1", "L1", "1", "l1 ", " l1", "l1\n", "l1 l2", "s0:5:1:2:l  l1 l2", "s0:5:1:2:l l1 l2 ", "s0:5:1:2:l l1",
		"s0:5:1:2:l l1 l2 l3", "s0:5:1:2: l1 l2", "s0:5:1:2 l1 l2", "s0:5:1:2:x l1 l2", "s0:5:1:2:L l1 l2", "s0:5:1:2:lr l1 l2",
		"s0:5:1:2:l: l1 l2", "s0:5:1:2:l:r l1 l2", "s0:5:1:2:0:l l1 l2", "s:0:5:1:2:l l1 l2", "s5:1:2:l l1 l2", "s0:5:1:2:true l1 l2",
		"s0:5:1:2:l l1,l2", "s0:5:1:2:l l1\tl2", "l1000000001", "l-1000000001", "l9223372036854775807", "l-9223372036854775808",
		"s6:5:1:2:l l1 l2", "s-1:5:1:2:l l1 l2", "s0:1000001:1:2:l l1 l2", "s0:-1000001:1:2:l l1 l2", "s0:9999999:1:2:l l1 l2", "s0:-:1:2:l l1 l2",
		"s0:5:1:1:l l1", "s0:5:1:0:l l1", "s0:5:1:3:l l1 l2", "s0:5:-1:2:l l1 l2", "s0:5:9223372036854775807:2:l l1 l2",
		fullTree + " l9", strings.Replace(fullTree, "l8", "s0:0:15:16:l l1 l2", 1), strings.Repeat("l1 ", 1000),
	} {
		checkNoTree(t, s)
	}
}

// A split with Left 0 would be a leaf, and a leaf has another text.
func TestReadTreeLeafAsSplit(t *testing.T) {
	for _, s := range []string{
		"s0:0:0:0:r", "s0:0:0:0:l", "s0:1:0:0:r", "s1:0:0:0:r", "s0:0:0:1:r", "s0:0:0:1:r l1",
		"s0:5:1:2:l l1 s0:0:0:0:r", "s0:5:1:2:l s0:0:0:0:r l1", "s0:5:1:2:l s0:0:0:0:r s0:0:0:0:r",
	} {
		checkNoTree(t, s)
	}
}

func TestTreeFromText(t *testing.T) {
	r := rand.New(rand.NewSource(3))
	for range 3000 {
		x := randomTree(r, r.Intn(8), impl.MaxFeats)
		s := impl.TreeText(x)
		if got, ok := impl.ReadTree(s); !ok || !slices.Equal(got, x) {
			t.Fatalf("ReadTree(%q) = %v, %v instead of %v", s, got, ok, x)
		}
	}
}

func TestReadTreeOnlyReadsTreeTexts(t *testing.T) {
	r := rand.New(rand.NewSource(4))
	taken := 0
	for range 30000 {
		s := mutated(r, plainText(randomTree(r, r.Intn(4), 3)), "0123ls:- ")
		x, ok := impl.ReadTree(s)
		if !ok && len(x) != 0 || ok && (impl.TreeText(x) != s || plainText(x) != s || !plainTree(x, impl.MaxFeats)) {
			t.Fatalf("ReadTree(%q) = %v, %v", s, x, ok)
		}
		if ok {
			taken++
		}
	}
	if taken < 1000 || taken > 29000 {
		t.Errorf("%d texts of 30000 were trees", taken)
	}
}

func plainText(t []impl.Node) string {
	s := ""
	for i, n := range t {
		if i > 0 {
			s += " "
		}
		if n.Left == 0 {
			s += "l" + strconv.Itoa(int(n.Value))
			continue
		}
		for j, x := range []int64{n.Feat, n.Cut, n.Left, n.Right} {
			s += "s:::"[j:j+1] + strconv.Itoa(int(x))
		}
		if n.Miss {
			s += ":l"
		} else {
			s += ":r"
		}
	}
	return s
}

// plainTree checks the rules of a tree one after the other, without joining nodes.
func plainTree(t []impl.Node, feats int64) bool {
	if feats < 1 || feats > 6 || len(t) < 1 || len(t) > 15 {
		return false
	}
	owners := make([]int, len(t))
	for i, n := range t {
		if n.Left == 0 {
			if n.Feat != 0 || n.Cut != 0 || n.Right != 0 || n.Miss || n.Value < -1000000000 || n.Value > 1000000000 {
				return false
			}
			continue
		}
		if n.Feat < 0 || n.Feat >= feats || n.Cut < -1000000 || n.Cut > 1000000 || n.Value != 0 || n.Left == n.Right {
			return false
		}
		for _, to := range []int64{n.Left, n.Right} {
			if to <= int64(i) || to >= int64(len(t)) {
				return false
			}
			owners[to]++
		}
	}
	for _, many := range owners[1:] {
		if many != 1 {
			return false
		}
	}
	return true
}

func TestTreeOkOfChangedTrees(t *testing.T) {
	r := rand.New(rand.NewSource(5))
	seen := map[bool]int{}
	for range 40000 {
		x := randomTree(r, r.Intn(8), 1+r.Intn(impl.MaxFeats))
		for range r.Intn(3) {
			changeNode(r, &x[r.Intn(len(x))], int64(len(x)))
		}
		if r.Intn(10) == 0 {
			x = append(x, impl.Node{})
		}
		feats := r.Int63n(impl.MaxFeats + 2)
		want := plainTree(x, feats)
		if got := impl.TreeOk(x, feats); got != want {
			t.Fatalf("TreeOk(%v, %d) = %v", x, feats, got)
		}
		if got := impl.TreeText(x) != ""; got != plainTree(x, impl.MaxFeats) {
			t.Fatalf("TreeText(%v) is %q", x, impl.TreeText(x))
		}
		seen[want]++
	}
	if seen[true] < 2000 || seen[false] < 2000 {
		t.Errorf("the trees are too much alike: %v", seen)
	}
}

func changeNode(r *rand.Rand, n *impl.Node, size int64) {
	switch r.Intn(6) {
	case 0:
		n.Left = r.Int63n(size+2) - 1
	case 1:
		n.Right = r.Int63n(size+2) - 1
	case 2:
		n.Left, n.Right = n.Right, n.Left
	case 3:
		n.Miss = !n.Miss
	case 4:
		n.Feat = r.Int63n(impl.MaxFeats+2) - 1
	case 5:
		n.Value = r.Int63n(3) - 1
	}
}

// plainPath follows the rule of the splits by indexes.
func plainPath(t []impl.Node, d []int64) []int64 {
	path := []int64{0}
	for {
		n := t[path[len(path)-1]]
		if n.Left == 0 {
			return path
		}
		x := d[n.Feat]
		if x == impl.Missing && n.Miss || x != impl.Missing && x <= n.Cut {
			path = append(path, n.Left)
		} else {
			path = append(path, n.Right)
		}
	}
}

func TestPathFollowsTheRule(t *testing.T) {
	r := rand.New(rand.NewSource(6))
	for range 5000 {
		size := 1 + r.Intn(impl.MaxFeats)
		x := randomTree(r, r.Intn(8), size)
		d := randomDoc(r, size)
		want := plainPath(x, d)
		if got := impl.PathOf(x, d); !slices.Equal(got, want) {
			t.Fatalf("PathOf(%v, %v) = %v instead of %v", x, d, got, want)
		}
		if got := impl.LeafOf(x, d); got != want[len(want)-1] || !slices.Contains(impl.LeavesOf(x), got) {
			t.Fatalf("LeafOf(%v, %v) = %v", x, d, got)
		}
		checkMeasures(t, x, want)
	}
}

func checkMeasures(t *testing.T, x []impl.Node, path []int64) {
	t.Helper()
	var leaves []int64
	lo, hi := int64(maxInt), int64(minInt)
	depths := make([]int64, len(x))
	deepest := int64(0)
	for i, n := range x {
		if n.Left != 0 {
			depths[n.Left], depths[n.Right] = depths[i]+1, depths[i]+1
			continue
		}
		leaves = append(leaves, int64(i))
		lo, hi, deepest = min(lo, n.Value), max(hi, n.Value), max(deepest, depths[i])
	}
	if a, b := impl.RangeOf(x); a != lo || b != hi {
		t.Fatalf("RangeOf(%v) = %d, %d", x, a, b)
	}
	if got := impl.LeavesOf(x); !slices.Equal(got, leaves) {
		t.Fatalf("LeavesOf(%v) = %v", x, got)
	}
	if got := impl.DepthOf(x); got != deepest || got < int64(len(path))-1 {
		t.Fatalf("DepthOf(%v) = %d", x, got)
	}
}

func TestUntestedFeatureDoesNotMatter(t *testing.T) {
	r := rand.New(rand.NewSource(7))
	for range 5000 {
		size := 1 + r.Intn(impl.MaxFeats)
		x := randomTree(r, r.Intn(8), size)
		d := randomDoc(r, size)
		path := impl.PathOf(x, d)
		tested := map[int64]bool{}
		for _, at := range path {
			if x[at].Left != 0 {
				tested[x[at].Feat] = true
			}
		}
		for i := range int64(size) {
			if tested[i] {
				continue
			}
			e, ok := impl.DocWith(d, i, randomNum(r))
			if got := impl.PathOf(x, e); !ok || !slices.Equal(got, path) {
				t.Fatalf("PathOf(%v, %v) = %v instead of %v", x, e, got, path)
			}
		}
	}
}

func TestTreeArgumentsStay(t *testing.T) {
	trees := badTrees()
	trees["example"] = tree(t, exampleTree)
	trees["full"] = tree(t, fullTree)
	filler := impl.Node{Value: 77}
	for name, x := range trees {
		d := []int64{1, 2, 3, 4, 5, 6}
		gt, gd := guard(x, filler), guard(d, 77)
		impl.TreeOk(gt.list, 6)
		impl.RangeOf(gt.list)
		impl.DepthOf(gt.list)
		impl.TreeText(gt.list)
		impl.LeafOf(gt.list, gd.list)
		for _, list := range [][]int64{impl.PathOf(gt.list, gd.list), impl.LeavesOf(gt.list)} {
			for i := range list {
				list[i] = 99
			}
			_ = append(list, 99)
		}
		t.Run(name, func(t *testing.T) {
			gt.check(t, x, filler)
			gd.check(t, d, 77)
		})
	}
}

func TestTreeResultsAreNew(t *testing.T) {
	a, b := tree(t, exampleTree), tree(t, exampleTree)
	a[0].Cut = 9
	if b[0].Cut != 5 {
		t.Error("two results of ReadTree share memory")
	}
	d := []int64{5, -2}
	p, q := impl.PathOf(b, d), impl.PathOf(b, d)
	p[0] = 9
	if q[0] != 0 {
		t.Error("two results of PathOf share memory")
	}
	l, m := impl.LeavesOf(b), impl.LeavesOf(b)
	l[0] = 9
	if m[0] != 2 {
		t.Error("two results of LeavesOf share memory")
	}
}
