package tests

import (
	"math/rand"
	"slices"
	"testing"

	"loop.example/g00762/impl"
)

var (
	goneOnly = impl.Span{Lo: 1, Hi: 0, Gone: true}
	nothing  = impl.Span{Lo: 1, Hi: 0}
	anything = impl.Span{Lo: -impl.MaxFeat, Hi: impl.MaxFeat, Gone: true}
	anyNum   = impl.Span{Lo: -impl.MaxFeat, Hi: impl.MaxFeat}
)

// exampleBox is the first box of the chapter.
func exampleBox() []impl.Span {
	return []impl.Span{{Lo: 1, Hi: 5}, {Lo: -3, Hi: 3, Gone: true}, goneOnly}
}

func goodSpans() []impl.Span {
	return []impl.Span{
		{}, {Gone: true}, {Lo: 1, Hi: 1}, {Lo: -1, Hi: 1}, goneOnly, anything, anyNum,
		{Lo: impl.MaxFeat, Hi: impl.MaxFeat}, {Lo: -impl.MaxFeat, Hi: -impl.MaxFeat, Gone: true},
	}
}

// badSpans can be in no box. The first one is a Span, but contains nothing.
func badSpans() []impl.Span {
	return []impl.Span{
		nothing,
		{Lo: 1}, {Lo: 2, Hi: 1}, {Lo: 2, Hi: 1, Gone: true}, {Lo: 1, Hi: -1, Gone: true}, {Lo: 0, Hi: -1, Gone: true}, {Lo: 2, Hi: 0, Gone: true},
		{Lo: 0, Hi: impl.MaxFeat + 1}, {Lo: -impl.MaxFeat - 1, Hi: 0}, {Lo: -impl.MaxFeat - 1, Hi: impl.MaxFeat, Gone: true},
		{Lo: impl.MaxFeat + 1, Hi: impl.MaxFeat + 1}, {Lo: impl.Missing, Hi: impl.Missing}, {Lo: impl.Missing, Hi: impl.Missing, Gone: true},
		{Lo: 0, Hi: impl.Missing}, {Lo: minInt, Hi: maxInt}, {Lo: maxInt, Hi: minInt, Gone: true}, {Lo: minInt, Hi: minInt}, {Lo: maxInt, Hi: maxInt},
	}
}

func badBoxes() [][]impl.Span {
	list := [][]impl.Span{nil, {}, make([]impl.Span, impl.MaxFeats+1), slices.Repeat([]impl.Span{anything}, 7), make([]impl.Span, 1000)}
	for _, s := range badSpans() {
		list = append(list, []impl.Span{s}, []impl.Span{s, anything}, []impl.Span{{}, goneOnly, s}, []impl.Span{{}, {}, {}, {}, {}, s})
	}
	return list
}

func TestBoxOk(t *testing.T) {
	for size := 1; size <= impl.MaxFeats; size++ {
		for at := range size {
			for _, s := range goodSpans() {
				b := make([]impl.Span, size)
				b[at] = s
				if !impl.BoxOk(b) {
					t.Errorf("BoxOk(%v) is false", b)
				}
			}
		}
	}
	if !impl.BoxOk(exampleBox()) || !impl.BoxOk(slices.Repeat([]impl.Span{goneOnly}, 6)) {
		t.Error("BoxOk of Missing is false")
	}
}

func TestBadBoxes(t *testing.T) {
	for _, b := range badBoxes() {
		if impl.BoxOk(b) {
			t.Errorf("BoxOk(%v) is true", b)
		}
		if d := impl.PickOf(b); len(d) != 0 {
			t.Errorf("PickOf(%v) is %v", b, d)
		}
		for _, x := range []int64{0, 1, impl.Missing} {
			if d := slices.Repeat([]int64{x}, len(b)); impl.BoxHas(b, d) {
				t.Errorf("BoxHas(%v, %v) is true", b, d)
			}
		}
		good := slices.Repeat([]impl.Span{anything}, len(b))
		checkNoMeet(t, b, good)
		checkNoMeet(t, good, b)
		checkNoMeet(t, b, b)
	}
}

func TestBoxHas(t *testing.T) {
	gone := int64(impl.Missing)
	for _, c := range []struct {
		b    []impl.Span
		d    []int64
		want bool
	}{
		{exampleBox(), []int64{1, 3, gone}, true},
		{exampleBox(), []int64{1, 0, 1}, false},
		{exampleBox(), []int64{1, 0, 0}, false},
		{exampleBox(), []int64{5, -3, gone}, true},
		{exampleBox(), []int64{5, gone, gone}, true},
		{exampleBox(), []int64{gone, 0, gone}, false},
		{exampleBox(), []int64{0, 0, gone}, false},
		{exampleBox(), []int64{6, 0, gone}, false},
		{exampleBox(), []int64{1, -4, gone}, false},
		{exampleBox(), []int64{1, 4, gone}, false},
		{[]impl.Span{{}}, []int64{0}, true},
		{[]impl.Span{{}}, []int64{gone}, false},
		{[]impl.Span{goneOnly}, []int64{gone}, true},
		{[]impl.Span{goneOnly}, []int64{0}, false},
		{[]impl.Span{goneOnly}, []int64{1}, false},
		{[]impl.Span{anything}, []int64{gone}, true},
		{[]impl.Span{anything}, []int64{impl.MaxFeat}, true},
		{[]impl.Span{anyNum}, []int64{-impl.MaxFeat}, true},
		{[]impl.Span{anyNum}, []int64{gone}, false},
	} {
		if got := impl.BoxHas(c.b, c.d); got != c.want {
			t.Errorf("BoxHas(%v, %v) is %v", c.b, c.d, got)
		}
	}
}

func TestBoxHasRejectsDocs(t *testing.T) {
	for size := range impl.MaxFeats + 2 {
		b := slices.Repeat([]impl.Span{anything}, size)
		for _, d := range append(badDocs(), make([]int64, size+1), make([]int64, max(0, size-1))) {
			if impl.BoxHas(b, d) {
				t.Errorf("BoxHas(%v, %v) is true", b, d)
			}
		}
	}
}

// plainHas follows the definition of a Span.
func plainHas(b []impl.Span, d []int64) bool {
	for i, s := range b {
		switch {
		case d[i] == impl.Missing && !s.Gone:
			return false
		case d[i] != impl.Missing && (d[i] < s.Lo || d[i] > s.Hi):
			return false
		}
	}
	return true
}

func checkNoMeet(t *testing.T, a, b []impl.Span) {
	t.Helper()
	if m, ok := impl.BoxMeet(a, b); ok || len(m) != 0 {
		t.Errorf("BoxMeet(%v, %v) = %v, %v", a, b, m, ok)
	}
}

func TestBoxMeetOfSpans(t *testing.T) {
	type span = impl.Span
	for _, c := range []struct{ a, b, want span }{
		{span{Lo: 1, Hi: 5, Gone: true}, span{Lo: 4, Hi: 9}, span{Lo: 4, Hi: 5}},
		{span{Lo: 1, Hi: 5, Gone: true}, span{Lo: 4, Hi: 9, Gone: true}, span{Lo: 4, Hi: 5, Gone: true}},
		{span{Lo: 1, Hi: 5}, span{Lo: 5, Hi: 9}, span{Lo: 5, Hi: 5}},
		{span{Lo: 1, Hi: 5}, span{Lo: 6, Hi: 9}, nothing},
		{span{Lo: 1, Hi: 5, Gone: true}, span{Lo: 6, Hi: 9}, nothing},
		{span{Lo: 1, Hi: 5, Gone: true}, span{Lo: 6, Hi: 9, Gone: true}, goneOnly},
		{span{Lo: 1, Hi: 5, Gone: true}, span{Lo: -9, Hi: -7, Gone: true}, goneOnly},
		{span{Lo: 1, Hi: 9}, span{Lo: 3, Hi: 4}, span{Lo: 3, Hi: 4}},
		{goneOnly, goneOnly, goneOnly},
		{goneOnly, anything, goneOnly},
		{goneOnly, anyNum, nothing},
		{goneOnly, span{Lo: 0, Hi: 1, Gone: true}, goneOnly},
		{goneOnly, span{Lo: 0, Hi: 0, Gone: true}, goneOnly},
		{goneOnly, span{Lo: 1, Hi: 1, Gone: true}, goneOnly},
		{goneOnly, span{Lo: impl.MaxFeat, Hi: impl.MaxFeat, Gone: true}, goneOnly},
		{goneOnly, span{Lo: -impl.MaxFeat, Hi: -impl.MaxFeat, Gone: true}, goneOnly},
		{goneOnly, span{Lo: 0, Hi: 1}, nothing},
		{anything, anything, anything},
		{anything, anyNum, anyNum},
	} {
		for _, pair := range [][2]span{{c.a, c.b}, {c.b, c.a}} {
			a, b := []span{{}, pair[0]}, []span{anything, pair[1]}
			if c.want == nothing {
				checkNoMeet(t, a, b)
				continue
			}
			if m, ok := impl.BoxMeet(a, b); !ok || !slices.Equal(m, []span{{}, c.want}) {
				t.Errorf("BoxMeet(%v, %v) = %v, %v", a, b, m, ok)
			}
		}
	}
}

func TestBoxMeetExample(t *testing.T) {
	m, ok := impl.BoxMeet([]impl.Span{{Lo: 1, Hi: 5, Gone: true}}, []impl.Span{{Lo: 4, Hi: 9}})
	if !ok || !slices.Equal(m, []impl.Span{{Lo: 4, Hi: 5}}) {
		t.Error(m, ok)
	}
}

func TestBoxMeetOfLengths(t *testing.T) {
	for i := range impl.MaxFeats + 2 {
		for j := range impl.MaxFeats + 2 {
			a, b := slices.Repeat([]impl.Span{anything}, i), slices.Repeat([]impl.Span{anything}, j)
			if i != j || i == 0 || i > impl.MaxFeats {
				checkNoMeet(t, a, b)
			} else if m, ok := impl.BoxMeet(a, b); !ok || !slices.Equal(m, a) {
				t.Errorf("BoxMeet of %d and %d Spans = %v, %v", i, j, m, ok)
			}
		}
	}
}

// randomBox prefers Spans whose ends are numbers that randomDoc prefers.
func randomBox(r *rand.Rand, size int) []impl.Span {
	b := make([]impl.Span, size)
	for i := range b {
		lo, hi := randomNum(r), randomNum(r)
		b[i] = impl.Span{Lo: min(lo, hi), Hi: max(lo, hi), Gone: r.Intn(2) == 0}
		if b[i].Hi == impl.Missing {
			b[i] = goneOnly
		}
	}
	return b
}

// fewNums are the numbers -5..5, the limits and Missing. Two Spans that
// contain the same of them are equal if their ends are limits or in -4..4.
func fewNums() []int64 {
	return []int64{-impl.MaxFeat, -5, -4, -3, -2, -1, 0, 1, 2, 3, 4, 5, impl.MaxFeat, impl.Missing}
}

// fewDocs are all documents of fewNums.
func fewDocs(size int) [][]int64 {
	docs := [][]int64{{}}
	for range size {
		var longer [][]int64
		for _, d := range docs {
			for _, x := range fewNums() {
				longer = append(longer, append(slices.Clone(d), x))
			}
		}
		docs = longer
	}
	return docs
}

func TestBoxMeetHasTheDocsOfBoth(t *testing.T) {
	r := rand.New(rand.NewSource(11))
	seen := map[bool]int{}
	for range 4000 {
		size := 1 + r.Intn(impl.MaxFeats)
		a, b := randomBox(r, size), randomBox(r, size)
		m, ok := impl.BoxMeet(a, b)
		if ok != impl.BoxOk(m) || !ok && len(m) != 0 || ok && len(m) != size {
			t.Fatalf("BoxMeet(%v, %v) = %v, %v", a, b, m, ok)
		}
		seen[ok]++
		docs := [][]int64{impl.PickOf(a), impl.PickOf(b)}
		for range 50 {
			docs = append(docs, randomDoc(r, size))
		}
		if ok {
			docs = append(docs, impl.PickOf(m))
		}
		for _, d := range docs {
			want := plainHas(a, d) && plainHas(b, d)
			if got := impl.BoxHas(m, d); got != want {
				t.Fatalf("%v and %v meet in %v, %v, which has %v: %v", a, b, m, ok, d, got)
			}
		}
	}
	if seen[true] < 500 || seen[false] < 500 {
		t.Errorf("the boxes are too much alike: %v", seen)
	}
}

// The document that shows that two boxes meet is looked for among all of few.
func TestBoxMeetFailsWithoutDocs(t *testing.T) {
	r := rand.New(rand.NewSource(12))
	docs := fewDocs(2)
	for range 2000 {
		a, b := smallBox(r, 2), smallBox(r, 2)
		some := slices.ContainsFunc(docs, func(d []int64) bool { return plainHas(a, d) && plainHas(b, d) })
		if m, ok := impl.BoxMeet(a, b); ok != some {
			t.Fatalf("BoxMeet(%v, %v) = %v, %v", a, b, m, ok)
		}
	}
}

func smallBox(r *rand.Rand, size int) []impl.Span {
	b := make([]impl.Span, size)
	for i := range b {
		lo, hi := r.Int63n(9)-4, r.Int63n(9)-4
		b[i] = impl.Span{Lo: lo, Hi: hi, Gone: r.Intn(2) == 0}
		if lo > hi {
			b[i] = goneOnly
		}
	}
	return b
}

const boxTree = "s0:5:1:4:l s0:8:2:3:r l1 l2 s1:0:5:6:l l3 l4"

func TestLeafBoxes(t *testing.T) {
	type spans = []impl.Span
	for _, c := range []struct {
		tree string
		leaf int64
		want spans
	}{
		{boxTree, 6, spans{{Lo: 6, Hi: impl.MaxFeat}, {Lo: 1, Hi: impl.MaxFeat}}},
		{boxTree, 5, spans{{Lo: 6, Hi: impl.MaxFeat}, {Lo: -impl.MaxFeat, Hi: 0, Gone: true}}},
		{boxTree, 2, spans{{Lo: -impl.MaxFeat, Hi: 5}, anything}},
		{boxTree, 3, spans{goneOnly, anything}},
		{"l4", 0, spans{anything, anything}},
		{"s0:1000000:1:2:l l1 l2", 1, spans{anything, anything}},
		{"s0:1000000:1:2:r l1 l2", 1, spans{anyNum, anything}},
		{"s0:1000000:1:2:r l1 l2", 2, spans{goneOnly, anything}},
		{"s0:-1000000:1:2:l l1 l2", 1, spans{{Lo: -impl.MaxFeat, Hi: -impl.MaxFeat, Gone: true}, anything}},
		{"s0:-1000000:1:2:l l1 l2", 2, spans{{Lo: -impl.MaxFeat + 1, Hi: impl.MaxFeat}, anything}},
		{"s1:999999:2:1:r l1 l2", 1, spans{anything, {Lo: impl.MaxFeat, Hi: impl.MaxFeat, Gone: true}}},
		{"s1:0:1:4:r s1:0:2:3:r l1 l2 l3", 2, spans{anything, {Lo: -impl.MaxFeat, Hi: 0}}},
		{"s0:5:1:2:r l1 s0:5:3:4:r l2 l3", 4, spans{{Lo: 6, Hi: impl.MaxFeat, Gone: true}, anything}},
		{"s0:5:1:2:r l1 s0:5:3:4:l l2 l3", 3, spans{goneOnly, anything}},
		{"s0:5:1:2:r l1 s0:-5:3:4:l l2 l3", 3, spans{goneOnly, anything}},
		{"s0:5:1:2:r l1 s0:-5:3:4:l s1:0:5:6:r l3 l1 l2", 6, spans{goneOnly, {Lo: 1, Hi: impl.MaxFeat, Gone: true}}},
	} {
		b, ok := impl.LeafBox(tree(t, c.tree), 2, c.leaf)
		if !ok || !slices.Equal(b, c.want) {
			t.Errorf("LeafBox(%q, 2, %d) = %v, %v", c.tree, c.leaf, b, ok)
		}
	}
}

func checkNoLeafBox(t *testing.T, x []impl.Node, feats, leaf int64) {
	t.Helper()
	if b, ok := impl.LeafBox(x, feats, leaf); ok || len(b) != 0 {
		t.Errorf("LeafBox(%v, %d, %d) = %v, %v", x, feats, leaf, b, ok)
	}
}

func TestLeafBoxWithoutDocs(t *testing.T) {
	for _, c := range []struct {
		tree string
		leaf int64
	}{
		{"s0:5:1:4:l s0:8:2:3:l l1 l2 l3", 3},
		{"s0:5:1:4:l s0:5:2:3:l l1 l2 l3", 3},
		{"s0:5:1:4:r s0:5:2:3:l l1 l2 l3", 3},
		{"s0:5:1:2:l l1 s0:5:3:4:l l2 l3", 3},
		{"s0:5:1:2:l l1 s0:4:3:4:l l2 l3", 3},
		{"s0:1000000:1:2:l l1 l2", 2},
		{"s0:1000000:1:2:l l3 s1:0:3:4:r l1 l2", 3},
		{"s0:1000000:1:2:l l3 s1:0:3:4:r l1 l2", 4},
		{"s0:1000000:1:2:r l3 s0:0:3:4:r l1 l2", 3},
		{"s0:1000000:1:2:r l3 s0:0:3:4:l l1 l2", 4},
	} {
		checkNoLeafBox(t, tree(t, c.tree), 2, c.leaf)
	}
}

func TestLeafBoxRejects(t *testing.T) {
	x := tree(t, boxTree)
	for _, leaf := range []int64{0, 1, 4, 7, 8, -1, -2, impl.MaxNodes, minInt, maxInt} {
		checkNoLeafBox(t, x, 2, leaf)
	}
	for _, feats := range []int64{1, 0, -1, impl.MaxFeats + 1, minInt, maxInt} {
		checkNoLeafBox(t, x, feats, 6)
	}
	for _, feats := range []int64{0, -1, impl.MaxFeats + 1, minInt, maxInt} {
		checkNoLeafBox(t, tree(t, "l1"), feats, 0)
	}
	for _, bad := range badTrees() {
		for leaf := int64(-1); leaf < 4; leaf++ {
			checkNoLeafBox(t, bad, impl.MaxFeats, leaf)
		}
	}
}

func TestLeafBoxHasAllFeatures(t *testing.T) {
	for feats := int64(2); feats <= impl.MaxFeats; feats++ {
		b, ok := impl.LeafBox(tree(t, boxTree), feats, 3)
		want := slices.Repeat([]impl.Span{anything}, int(feats))
		want[0] = goneOnly
		if !ok || !slices.Equal(b, want) {
			t.Errorf("LeafBox with %d features = %v, %v", feats, b, ok)
		}
	}
}

// boxyTree has some Cuts that are limits, so that some leaves have no documents.
func boxyTree(r *rand.Rand, feats int) []impl.Node {
	x := randomTree(r, r.Intn(8), feats)
	for i := range x {
		if x[i].Left != 0 && r.Intn(6) == 0 {
			x[i].Cut = []int64{impl.MaxFeat, -impl.MaxFeat}[r.Intn(2)]
		}
	}
	return x
}

// leafBoxes returns the boxes of all leaves that have one.
func leafBoxes(t *testing.T, x []impl.Node, feats int) map[int64][]impl.Span {
	t.Helper()
	boxes := map[int64][]impl.Span{}
	for _, leaf := range impl.LeavesOf(x) {
		b, ok := impl.LeafBox(x, int64(feats), leaf)
		if ok != impl.BoxOk(b) || !ok && len(b) != 0 || ok && len(b) != feats {
			t.Fatalf("LeafBox(%v, %d, %d) = %v, %v", x, feats, leaf, b, ok)
		}
		if ok {
			boxes[leaf] = b
		}
	}
	return boxes
}

// checkInBoxes checks that a document is in the box of the leaf where it ends,
// and in no other one.
func checkInBoxes(t *testing.T, x []impl.Node, boxes map[int64][]impl.Span, d []int64) int64 {
	t.Helper()
	path := plainPath(x, d)
	end := path[len(path)-1]
	for _, leaf := range impl.LeavesOf(x) {
		b, ok := boxes[leaf]
		has := ok && plainHas(b, d)
		if has != (leaf == end) || has != impl.BoxHas(b, d) {
			t.Fatalf("%v ends at leaf %d of %v; the box of leaf %d is %v, %v", d, end, x, leaf, b, ok)
		}
	}
	b, ok := impl.DocBox(x, d)
	if !ok || !slices.Equal(b, boxes[end]) {
		t.Fatalf("DocBox(%v, %v) = %v, %v", x, d, b, ok)
	}
	return end
}

func TestEachDocIsInTheBoxOfItsLeaf(t *testing.T) {
	r := rand.New(rand.NewSource(13))
	empty := 0
	for range 400 {
		size := 1 + r.Intn(2)
		x := boxyTree(r, size)
		boxes := leafBoxes(t, x, size)
		reached := map[int64]bool{}
		for _, d := range fewDocs(size) {
			reached[checkInBoxes(t, x, boxes, d)] = true
		}
		if len(reached) != len(boxes) {
			t.Fatalf("documents end at the leaves %v of %v, boxes are %v", reached, x, boxes)
		}
		empty += len(impl.LeavesOf(x)) - len(boxes)
	}
	if empty < 100 {
		t.Errorf("only %d leaves had no documents", empty)
	}
}

func TestEachDocIsInTheBoxOfItsLeafMoreFeatures(t *testing.T) {
	r := rand.New(rand.NewSource(14))
	for range 500 {
		size := 1 + r.Intn(impl.MaxFeats)
		x := boxyTree(r, size)
		boxes := leafBoxes(t, x, size)
		for range 40 {
			checkInBoxes(t, x, boxes, randomDoc(r, size))
		}
		for leaf, b := range boxes {
			if end := checkInBoxes(t, x, boxes, impl.PickOf(b)); end != leaf {
				t.Fatalf("PickOf(%v) ends at leaf %d of %v", b, end, x)
			}
		}
	}
}

func TestDocBoxExamples(t *testing.T) {
	x := tree(t, boxTree)
	if b, ok := impl.DocBox(x, []int64{7, 3}); !ok || !slices.Equal(b, []impl.Span{{Lo: 6, Hi: impl.MaxFeat}, {Lo: 1, Hi: impl.MaxFeat}}) {
		t.Error(b, ok)
	}
	if b, ok := impl.DocBox(x, []int64{impl.Missing, 3, 4}); !ok || !slices.Equal(b, []impl.Span{goneOnly, anything, anything}) {
		t.Error(b, ok)
	}
}

func checkNoDocBox(t *testing.T, x []impl.Node, d []int64) {
	t.Helper()
	if b, ok := impl.DocBox(x, d); ok || len(b) != 0 {
		t.Errorf("DocBox(%v, %v) = %v, %v", x, d, b, ok)
	}
}

func TestDocBoxRejects(t *testing.T) {
	for _, d := range append(badDocs(), []int64{5}, []int64{impl.Missing}) {
		checkNoDocBox(t, tree(t, boxTree), d)
	}
	for _, d := range badDocs() {
		checkNoDocBox(t, tree(t, "l1"), d)
	}
	for _, x := range badTrees() {
		checkNoDocBox(t, x, []int64{0, 0, 0, 0, 0, 0})
	}
}

func TestPickOf(t *testing.T) {
	if d := impl.PickOf(exampleBox()); !slices.Equal(d, []int64{1, -3, impl.Missing}) {
		t.Error(d)
	}
	for _, s := range goodSpans() {
		want := s.Lo
		if s == goneOnly {
			want = impl.Missing
		}
		if d := impl.PickOf([]impl.Span{{}, s}); !slices.Equal(d, []int64{0, want}) {
			t.Errorf("PickOf %v is %v", s, d)
		}
	}
	r := rand.New(rand.NewSource(15))
	for range 1000 {
		b := randomBox(r, 1+r.Intn(impl.MaxFeats))
		if d := impl.PickOf(b); !impl.DocOk(d) || !impl.BoxHas(b, d) {
			t.Fatalf("PickOf(%v) is %v", b, d)
		}
	}
}

func TestBoxArgumentsStay(t *testing.T) {
	filler := impl.Span{Lo: 77}
	boxes := append(badBoxes(), exampleBox(), []impl.Span{goneOnly}, []impl.Span{{Lo: 2, Hi: 3, Gone: true}})
	for _, b := range boxes {
		d := slices.Repeat([]int64{1}, len(b))
		other := slices.Repeat([]impl.Span{{Lo: 2, Hi: 5, Gone: true}}, len(b))
		gb, go2, gd := guard(b, filler), guard(other, filler), guard(d, 77)
		impl.BoxOk(gb.list)
		impl.BoxHas(gb.list, gd.list)
		one, _ := impl.BoxMeet(gb.list, go2.list)
		two, _ := impl.BoxMeet(go2.list, gb.list)
		for _, m := range [][]impl.Span{one, two} {
			for i := range m {
				m[i] = impl.Span{Lo: 99}
			}
			_ = append(m, impl.Span{Lo: 99})
		}
		pick := impl.PickOf(gb.list)
		for i := range pick {
			pick[i] = 99
		}
		gb.check(t, b, filler)
		go2.check(t, other, filler)
		gd.check(t, d, 77)
	}
}

func TestLeafBoxArgumentsStay(t *testing.T) {
	filler := impl.Node{Value: 77}
	trees := badTrees()
	trees["boxes"] = tree(t, boxTree)
	for name, x := range trees {
		d := []int64{1, 2, 3, 4, 5, 6}
		gt, gd := guard(x, filler), guard(d, 77)
		one, _ := impl.LeafBox(gt.list, 6, 2)
		two, _ := impl.DocBox(gt.list, gd.list)
		for _, b := range [][]impl.Span{one, two} {
			for i := range b {
				b[i] = impl.Span{Lo: 99}
			}
		}
		t.Run(name, func(t *testing.T) {
			gt.check(t, x, filler)
			gd.check(t, d, 77)
		})
	}
}

func TestBoxResultsAreNew(t *testing.T) {
	x := tree(t, boxTree)
	a, _ := impl.LeafBox(x, 2, 6)
	b, _ := impl.LeafBox(x, 2, 6)
	a[0] = impl.Span{}
	if b[0].Lo != 6 {
		t.Error("two results of LeafBox share memory")
	}
	m, _ := impl.BoxMeet(b, b)
	m[0] = impl.Span{}
	if b[0].Lo != 6 {
		t.Error("a result of BoxMeet shares memory with its argument")
	}
	p, q := impl.PickOf(b), impl.PickOf(b)
	p[0] = 99
	if q[0] != 6 {
		t.Error("two results of PickOf share memory")
	}
}
