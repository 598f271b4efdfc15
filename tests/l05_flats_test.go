package tests

import (
	"maps"
	"math/rand"
	"slices"
	"strconv"
	"testing"

	"loop.example/g00762/impl"
)

const flatEns = "2 -5 | l7 | s1:5:1:2:l l10 l-4"

// flatLists are the lists of a Flat that have an element for each node.
func flatLists(f *impl.Flat) map[string]*[]int64 {
	return map[string]*[]int64{"Feat": &f.Feat, "Cut": &f.Cut, "Left": &f.Left, "Right": &f.Right, "Miss": &f.Miss, "Value": &f.Value}
}

// allLists are all lists of a Flat.
func allLists(f *impl.Flat) map[string]*[]int64 {
	lists := flatLists(f)
	lists["Roots"] = &f.Roots
	return lists
}

func copyFlat(f impl.Flat) impl.Flat {
	for _, list := range allLists(&f) {
		*list = slices.Clone(*list)
	}
	return f
}

func sameFlat(a, b impl.Flat) bool {
	other := allLists(&b)
	for name, list := range allLists(&a) {
		if !slices.Equal(*list, *other[name]) {
			return false
		}
	}
	return a.Feats == b.Feats && a.Bias == b.Bias
}

func flat(t *testing.T, s string) impl.Flat {
	t.Helper()
	f, ok := impl.Flatten(ens(t, s))
	if !ok {
		t.Fatalf("Flatten(%q) is false", s)
	}
	return f
}

// plainFlat lists the nodes of an ensemble one after the other.
func plainFlat(e impl.Ens) impl.Flat {
	f := impl.Flat{Feats: e.Feats, Bias: e.Bias}
	for _, x := range e.Trees {
		root := int64(len(f.Feat))
		f.Roots = append(f.Roots, root)
		for _, n := range x {
			left, right, miss := n.Left, n.Right, int64(0)
			if n.Left != 0 {
				left, right = root+n.Left, root+n.Right
			}
			if n.Miss {
				miss = 1
			}
			f.Feat, f.Cut, f.Left = append(f.Feat, n.Feat), append(f.Cut, n.Cut), append(f.Left, left)
			f.Right, f.Miss, f.Value = append(f.Right, right), append(f.Miss, miss), append(f.Value, n.Value)
		}
	}
	return f
}

// plainUnflat checks the rules of a Flat one after the other.
func plainUnflat(f impl.Flat) (impl.Ens, bool) {
	size := int64(len(f.Feat))
	for _, list := range flatLists(&f) {
		if int64(len(*list)) != size {
			return impl.Ens{}, false
		}
	}
	if len(f.Roots) > 12 || f.Feats < 1 || f.Feats > 6 || f.Bias < -1000000000 || f.Bias > 1000000000 {
		return impl.Ens{}, false
	}
	e := impl.Ens{Feats: f.Feats, Bias: f.Bias}
	bounds := append(slices.Clone(f.Roots), size)
	if bounds[0] != 0 {
		return impl.Ens{}, false
	}
	for i := range f.Roots {
		if bounds[i+1] <= bounds[i] || bounds[i+1] > size {
			return impl.Ens{}, false
		}
		x, ok := plainPart(f, bounds[i], bounds[i+1])
		if !ok || !plainTree(x, f.Feats) {
			return impl.Ens{}, false
		}
		e.Trees = append(e.Trees, x)
	}
	return e, true
}

// plainPart returns the nodes with the indexes lo..hi-1.
func plainPart(f impl.Flat, lo, hi int64) ([]impl.Node, bool) {
	var x []impl.Node
	for i := lo; i < hi; i++ {
		n := impl.Node{Feat: f.Feat[i], Cut: f.Cut[i], Miss: f.Miss[i] == 1, Value: f.Value[i]}
		if f.Miss[i] != 0 && f.Miss[i] != 1 {
			return nil, false
		}
		if f.Left[i] == 0 {
			n.Right = f.Right[i]
		} else {
			if f.Left[i] <= lo || f.Left[i] >= hi || f.Right[i] <= lo || f.Right[i] >= hi {
				return nil, false
			}
			n.Left, n.Right = f.Left[i]-lo, f.Right[i]-lo
		}
		x = append(x, n)
	}
	return x, true
}

func plainCost(e impl.Ens, d []int64) int64 {
	cost := int64(0)
	for _, x := range e.Trees {
		cost += int64(len(plainPath(x, d))) - 1
	}
	return cost
}

// flatTexts are ensembles with few and many trees, and with equal ones.
func flatTexts() []string {
	return append(goodEnsTexts(),
		flatEns, withTrees("2 0", exampleTree, 2), withTrees("6 -7", chainTree, impl.MaxTrees),
		"1 5 | l7 | l7 | s0:5:1:2:l l1 l1 | l7 | s0:5:1:2:l l1 l1",
		"1 1000000000 | s0:1000000:1:2:r l1000000000 l-1000000000 | s0:-1000000:2:1:l l-1000000000 l1000000000",
	)
}

func TestFlattenExamples(t *testing.T) {
	for _, c := range []struct {
		s    string
		want impl.Flat
	}{
		{flatEns, impl.Flat{
			Feats: 2, Bias: -5, Roots: []int64{0, 1}, Feat: []int64{0, 1, 0, 0}, Cut: []int64{0, 5, 0, 0},
			Left: []int64{0, 2, 0, 0}, Right: []int64{0, 3, 0, 0}, Miss: []int64{0, 1, 0, 0}, Value: []int64{7, 0, 10, -4},
		}},
		{"3 9", impl.Flat{Feats: 3, Bias: 9}},
		{"1 0 | l-8", impl.Flat{
			Feats: 1, Roots: []int64{0}, Feat: []int64{0}, Cut: []int64{0},
			Left: []int64{0}, Right: []int64{0}, Miss: []int64{0}, Value: []int64{-8},
		}},
		{"1 0 | s0:-3:2:1:r l1 l2 | s0:-3:2:1:r l1 l2 | l4", impl.Flat{
			Feats: 1, Roots: []int64{0, 3, 6}, Feat: make([]int64, 7), Cut: []int64{-3, 0, 0, -3, 0, 0, 0},
			Left: []int64{2, 0, 0, 5, 0, 0, 0}, Right: []int64{1, 0, 0, 4, 0, 0, 0}, Miss: make([]int64, 7), Value: []int64{0, 1, 2, 0, 1, 2, 4},
		}},
	} {
		if f := flat(t, c.s); !sameFlat(f, c.want) {
			t.Errorf("Flatten(%q) = %v", c.s, f)
		}
		if e, ok := impl.Unflatten(c.want); !ok || !sameEns(e, ens(t, c.s)) {
			t.Errorf("Unflatten(%v) = %v, %v", c.want, e, ok)
		}
	}
}

func TestEnsFromFlat(t *testing.T) {
	r := rand.New(rand.NewSource(31))
	var list []impl.Ens
	for _, s := range flatTexts() {
		list = append(list, ens(t, s))
	}
	for range 1500 {
		list = append(list, repeatTrees(r, randomEns(r, 1+r.Intn(impl.MaxFeats))))
	}
	for _, e := range list {
		f, ok := impl.Flatten(e)
		if !ok || !sameFlat(f, plainFlat(e)) {
			t.Fatalf("Flatten(%v) = %v, %v", e, f, ok)
		}
		if got, ok := impl.Unflatten(f); !ok || !sameEns(got, e) {
			t.Fatalf("Unflatten(%v) = %v, %v instead of %v", f, got, ok, e)
		}
	}
}

// repeatTrees makes some trees of an ensemble equal to others.
func repeatTrees(r *rand.Rand, e impl.Ens) impl.Ens {
	e = copyEns(e)
	for i := range e.Trees {
		if r.Intn(3) == 0 {
			e.Trees[i] = slices.Clone(e.Trees[r.Intn(len(e.Trees))])
		}
	}
	return e
}

func TestFlattenRejects(t *testing.T) {
	for name, e := range badEns() {
		if f, ok := impl.Flatten(e); ok || !sameFlat(f, impl.Flat{}) {
			t.Errorf("%s: Flatten returns %v, %v", name, f, ok)
		}
	}
}

// checkNoFlat checks that there is no ensemble whose Flat is f.
func checkNoFlat(t *testing.T, name string, f impl.Flat) {
	t.Helper()
	if e, ok := impl.Unflatten(f); ok || !sameEns(e, impl.Ens{}) {
		t.Errorf("%s: Unflatten(%v) = %v, %v", name, f, e, ok)
	}
	for size := range impl.MaxFeats + 2 {
		if n, cost, ok := impl.FlatScore(f, make([]int64, size)); ok || n != 0 || cost != 0 {
			t.Errorf("%s: FlatScore(%v) = %d, %d, %v", name, f, n, cost, ok)
		}
	}
}

// changedFlats are Flats of no ensemble, each made by one change from the Flat
// of two equal trees and a leaf, with the nodes 0..2, 3..5 and 6.
func changedFlats(t *testing.T) map[string]impl.Flat {
	base := flat(t, "2 5 | s1:2:1:2:l l3 l4 | s1:2:1:2:l l3 l4 | l6")
	list := map[string]impl.Flat{}
	add := func(name string, change func(f *impl.Flat)) {
		f := copyFlat(base)
		change(&f)
		list[name] = f
	}
	set := func(name string, of string, at int, x int64) {
		add(name, func(f *impl.Flat) { (*allLists(f)[of])[at] = x })
	}
	for i, roots := range [][]int64{
		nil, {0}, {0, 3}, {0, 6}, {3, 6}, {1, 3, 6}, {0, 2, 6}, {0, 4, 6}, {0, 3, 5}, {0, 3, 3, 6}, {0, 0, 3, 6}, {0, 3, 6, 6}, {0, 3, 6, 7}, {0, 6, 3}, {3, 0, 6},
		{-1, 3, 6}, {0, -3, 6}, {0, 3, 7}, {0, 3, 8}, {minInt, 3, 6}, {0, 3, maxInt}, {0, minInt, 6}, {256, 3, 6}, {0, 259, 6}, {0, 3, 1<<32 + 6},
		make([]int64, impl.MaxTrees+1), make([]int64, 1000), {0, 1, 2, 3, 4, 5, 6}, {0, 1, 2, 3, 6},
	} {
		add("Roots "+strconv.Itoa(i), func(f *impl.Flat) { f.Roots = roots })
	}
	for _, miss := range []int64{2, 3, -1, -2, 255, 256, 257, 1 << 32, 1<<32 + 1, minInt, minInt + 1, maxInt} {
		set("Miss of a split is "+strconv.FormatInt(miss, 10), "Miss", 3, miss)
		set("Miss of a leaf is "+strconv.FormatInt(miss, 10), "Miss", 4, miss)
	}
	set("Miss of a leaf is 1", "Miss", 6, 1)
	for _, to := range []int64{-1, 1, 2, 3, 5, 6, 7, 8, 255, 256, 260, 256 + 4, -252, 1<<32 + 4, minInt, maxInt} {
		set("Left is "+strconv.FormatInt(to, 10), "Left", 3, to)
	}
	for _, to := range []int64{-1, 0, 1, 2, 3, 4, 6, 7, 8, 255, 256, 256 + 5, -251, 1<<32 + 5, minInt, maxInt} {
		set("Right is "+strconv.FormatInt(to, 10), "Right", 3, to)
	}
	set("a leaf with Right", "Right", 4, 5)
	set("a leaf with Left", "Left", 4, 5)
	set("a leaf with Feat", "Feat", 4, 1)
	set("a leaf with Cut", "Cut", 4, 1)
	set("a leaf with Cut that is its Value", "Cut", 4, 3)
	set("a split with Value", "Value", 3, 1)
	set("a split with Value that is its Cut", "Value", 3, 2)
	set("a split with a feature too great", "Feat", 3, 2)
	add("no features", func(f *impl.Flat) { f.Feats = 0 })
	add("one feature", func(f *impl.Flat) { f.Feats = 1 })
	add("seven features", func(f *impl.Flat) { f.Feats = 7 })
	add("very many features", func(f *impl.Flat) { f.Feats = 1<<32 + 2 })
	add("too great a Bias", func(f *impl.Flat) { f.Bias = impl.MaxValue + 1 })
	add("too small a Bias", func(f *impl.Flat) { f.Bias = -impl.MaxValue - 1 })
	add("a Bias that fits no word", func(f *impl.Flat) { f.Bias = 1<<32 + 5 })
	add("the least Bias", func(f *impl.Flat) { f.Bias = minInt })
	add("a split whose Left and Right are its root", func(f *impl.Flat) {
		f.Left[6], f.Right[6], f.Value[6] = 6, 6, 0
	})
	add("a split whose Left is its root", func(f *impl.Flat) { f.Left[6], f.Value[6] = 6, 0 })
	add("the second tree leads into the first one", func(f *impl.Flat) { f.Left[3], f.Right[3] = 1, 2 })
	add("the first tree leads into the second one", func(f *impl.Flat) { f.Left[0], f.Right[0] = 4, 5 })
	add("the indexes begin with each tree", func(f *impl.Flat) { f.Left[3], f.Right[3], f.Roots = 1, 2, []int64{0, 3, 6} })
	return list
}

// sizedFlats are Flats of no ensemble because of the lengths of their lists.
func sizedFlats(t *testing.T) map[string]impl.Flat {
	list := map[string]impl.Flat{"zero": {}, "one root, no nodes": {Feats: 1, Roots: []int64{0}}, "no features, one leaf": plainFlat(impl.Ens{Trees: [][]impl.Node{{{}}}})}
	for _, s := range []string{flatEns, "1 0 | l0", "1 0", withTrees("6 0", fullTree, impl.MaxTrees)} {
		f := flat(t, s)
		for name, of := range flatLists(&f) {
			old := *of
			*of = append(slices.Clone(old), 0)
			list[s+": longer "+name] = copyFlat(f)
			if len(old) > 0 {
				*of = old[:len(old)-1]
				list[s+": shorter "+name] = copyFlat(f)
				*of = nil
				list[s+": without "+name] = copyFlat(f)
			}
			*of = old
		}
		for _, of := range flatLists(&f) {
			*of = append(*of, 0)
		}
		list[s+": one node more"] = f
		f = flat(t, s)
		f.Roots = append(f.Roots, int64(len(f.Feat)))
		list[s+": one root more"] = f
	}
	sizes := []int{impl.MaxTrees*impl.MaxNodes + 1, 256, 257, 5000}
	for _, size := range sizes {
		f := impl.Flat{Feats: 6, Roots: []int64{0}}
		for _, of := range flatLists(&f) {
			*of = make([]int64, size)
		}
		list[strconv.Itoa(size)+" nodes"] = f
		f = copyFlat(f)
		for i := range int64(size) {
			f.Roots = append(f.Roots[:i], i)
		}
		list[strconv.Itoa(size)+" trees"] = f
	}
	leaf, full := []impl.Node{{}}, tree(t, fullTree)
	for name, trees := range map[string][][]impl.Node{
		"13 leaves":     slices.Repeat([][]impl.Node{leaf}, 13),
		"13 full trees": slices.Repeat([][]impl.Node{full}, 13),
		"18 full trees": slices.Repeat([][]impl.Node{full}, 18),
	} {
		list[name] = plainFlat(impl.Ens{Feats: 6, Trees: trees})
	}
	return list
}

func badFlats(t *testing.T) map[string]impl.Flat {
	list := changedFlats(t)
	maps.Copy(list, sizedFlats(t))
	for name, e := range badEns() {
		list["the list of "+name] = plainFlat(e)
	}
	return list
}

func TestBadFlats(t *testing.T) {
	for name, f := range badFlats(t) {
		checkNoFlat(t, name, f)
	}
}

func TestFlatWithoutTrees(t *testing.T) {
	for _, f := range []impl.Flat{
		{Feats: 1, Bias: 4},
		{Feats: 1, Bias: 4, Roots: []int64{}, Feat: []int64{}, Cut: []int64{}, Left: []int64{}, Right: []int64{}, Miss: []int64{}, Value: []int64{}},
		{Feats: 1, Bias: 4, Roots: []int64{}, Left: []int64{}},
	} {
		if e, ok := impl.Unflatten(f); !ok || !sameEns(e, impl.Ens{Feats: 1, Bias: 4}) {
			t.Errorf("Unflatten(%v) = %v, %v", f, e, ok)
		}
		if n, cost, ok := impl.FlatScore(f, []int64{impl.Missing}); !ok || n != 4 || cost != 0 {
			t.Errorf("FlatScore(%v) = %d, %d, %v", f, n, cost, ok)
		}
	}
}

// checkUnflatten compares Unflatten and FlatScore with the plain rules.
func checkUnflatten(t *testing.T, f impl.Flat) bool {
	t.Helper()
	want, fine := plainUnflat(f)
	if e, ok := impl.Unflatten(f); ok != fine || !sameEns(e, want) {
		t.Fatalf("Unflatten(%v) = %v, %v", f, e, ok)
	}
	d := make([]int64, max(0, min(6, f.Feats)))
	n, cost, ok := impl.FlatScore(f, d)
	if ok != fine || !ok && (n != 0 || cost != 0) || ok && (n != plainScore(want, d) || cost != plainCost(want, d)) {
		t.Fatalf("FlatScore(%v, %v) = %d, %d, %v", f, d, n, cost, ok)
	}
	return fine
}

// Each single bit of each number counts, also those that fit no word.
func TestEachBitOfAFlatCounts(t *testing.T) {
	for _, s := range []string{flatEns, "3 1 | s2:-7:1:4:r s0:9:2:3:l l-1 l1 l-1000000000 | l1000000000 | s1:1:2:1:r l5 l-5"} {
		f := flat(t, s)
		for _, list := range allLists(&f) {
			for i, x := range *list {
				for bit := range 64 {
					(*list)[i] = x ^ 1<<bit
					checkUnflatten(t, f)
				}
				(*list)[i] = x
			}
		}
		for bit := range 64 {
			f.Feats ^= 1 << bit
			checkUnflatten(t, f)
			f.Feats ^= 1 << bit
			f.Bias ^= 1 << bit
			checkUnflatten(t, f)
			f.Bias ^= 1 << bit
		}
		if !checkUnflatten(t, f) {
			t.Error("the flat did not stay")
		}
	}
}

// changeFlat changes a few numbers, prefers small changes, and seldom changes a length.
func changeFlat(r *rand.Rand, f *impl.Flat) {
	names := []string{"Roots", "Feat", "Cut", "Left", "Right", "Miss", "Value"}
	for range 1 + r.Intn(2) {
		list := allLists(f)[names[r.Intn(len(names))]]
		switch {
		case len(*list) == 0 || r.Intn(20) == 0:
			*list = append(*list, int64(r.Intn(3)))
		case r.Intn(20) == 0:
			*list = (*list)[:len(*list)-1]
		case r.Intn(4) == 0:
			(*list)[r.Intn(len(*list))] = int64(r.Intn(len(f.Feat) + 2))
		case r.Intn(3) == 0:
			i, j := r.Intn(len(*list)), r.Intn(len(*list))
			(*list)[i], (*list)[j] = (*list)[j], (*list)[i]
		default:
			(*list)[r.Intn(len(*list))] += int64(r.Intn(5) - 2)
		}
	}
}

func TestUnflattenOfChangedFlats(t *testing.T) {
	r := rand.New(rand.NewSource(32))
	seen := map[bool]int{}
	for range 40000 {
		e := impl.Ens{Feats: 1 + r.Int63n(3), Bias: r.Int63n(30) - 10}
		for range r.Intn(4) {
			e.Trees = append(e.Trees, randomTree(r, r.Intn(4), int(e.Feats)))
		}
		f := plainFlat(repeatTrees(r, e))
		changeFlat(r, &f)
		seen[checkUnflatten(t, f)]++
	}
	if seen[true] < 4000 || seen[false] < 4000 {
		t.Errorf("the flats are too much alike: %v", seen)
	}
}

func TestFlatScoreExamples(t *testing.T) {
	gone := int64(impl.Missing)
	for _, c := range []struct {
		s       string
		d       []int64
		n, cost int64
	}{
		{flatEns, []int64{0, gone}, 12, 1},
		{flatEns, []int64{0, 5}, 12, 1},
		{flatEns, []int64{gone, 6}, -2, 1},
		{"3 9", []int64{1, 2, 3}, 9, 0},
		{"1 9 | l1 | l2", []int64{1}, 12, 0},
		{"2 1 | " + exampleTree + " | " + exampleTree, []int64{5, -2}, 21, 4},
		{"2 1 | " + exampleTree + " | " + exampleTree, []int64{6, -2}, 15, 2},
		{withTrees("6 0", chainTree, impl.MaxTrees), []int64{0, 9, 9, 9, 9, 9}, 12, 12},
		{withTrees("6 0", chainTree, impl.MaxTrees), []int64{9, 9, 9, 9, 9, 9}, 96, 84},
		{withTrees("1 1000000000", "l1000000000", impl.MaxTrees), []int64{0}, 13000000000, 0},
		{withTrees("1 -1000000000", "s0:0:1:2:r l-1000000000 l5", impl.MaxTrees), []int64{0}, -13000000000, 12},
	} {
		if n, cost, ok := impl.FlatScore(flat(t, c.s), c.d); !ok || n != c.n || cost != c.cost {
			t.Errorf("FlatScore(%q, %v) = %d, %d, %v", c.s, c.d, n, cost, ok)
		}
	}
}

func TestFlatScoreIsFullScore(t *testing.T) {
	r := rand.New(rand.NewSource(33))
	for range 1500 {
		size := 1 + r.Intn(impl.MaxFeats)
		e := repeatTrees(r, randomEns(r, size))
		f := plainFlat(e)
		for range 10 {
			d := randomDoc(r, size)
			n, cost, ok := impl.FlatScore(f, d)
			full, fine := impl.FullScore(e, d)
			if !ok || !fine || n != full || n != plainScore(e, d) || cost != plainCost(e, d) {
				t.Fatalf("FlatScore(%v, %v) = %d, %d, %v", f, d, n, cost, ok)
			}
		}
	}
}

func TestFlatScoreRejectsDocs(t *testing.T) {
	for feats := range impl.MaxFeats {
		for _, tail := range []string{"", " | l7", " | s0:1:1:2:l l1 l2"} {
			f := flat(t, strconv.Itoa(feats+1)+" 5"+tail)
			docs := badDocs()
			for size := range impl.MaxFeats + 2 {
				if size != feats+1 {
					docs = append(docs, make([]int64, size))
				}
			}
			for _, x := range []int64{impl.MaxFeat + 1, -impl.MaxFeat - 1, impl.Missing + 1, minInt, maxInt} {
				docs = append(docs, append(make([]int64, feats), x))
			}
			for _, d := range docs {
				if n, cost, ok := impl.FlatScore(f, d); ok || n != 0 || cost != 0 {
					t.Errorf("FlatScore(%v, %v) = %d, %d, %v", f, d, n, cost, ok)
				}
			}
		}
	}
}

// spoilFlat writes to all memory of a Flat.
func spoilFlat(f impl.Flat) {
	for _, list := range allLists(&f) {
		spoilList(*list, 99)
	}
}

func TestFlatArgumentsStay(t *testing.T) {
	list := badFlats(t)
	for _, s := range flatTexts() {
		list[s] = flat(t, s)
	}
	for name, f := range list {
		before, whole := copyFlat(f), map[string]guarded[int64]{}
		for of, l := range allLists(&f) {
			whole[of] = guard(*l, 77)
			*l = whole[of].list
		}
		d := make([]int64, max(0, min(6, f.Feats)))
		gd := guard(d, 77)
		e, _ := impl.Unflatten(f)
		spoil(e)
		impl.FlatScore(f, gd.list)
		t.Run(name, func(t *testing.T) {
			for of, l := range allLists(&before) {
				whole[of].check(t, *l, 77)
			}
			gd.check(t, d, 77)
		})
	}
	ensembles := badEns()
	for _, s := range flatTexts() {
		ensembles[s] = ens(t, s)
	}
	for name, e := range ensembles {
		g, check := guardEns(e)
		f, _ := impl.Flatten(g)
		spoilFlat(f)
		t.Run(name, check)
	}
}

func TestFlatResultsAreNew(t *testing.T) {
	for _, s := range flatTexts() {
		want := plainFlat(ens(t, s))
		for name := range allLists(&want) {
			f, other := flat(t, s), copyFlat(want)
			spoilList(*allLists(&f)[name], 99)
			*allLists(&f)[name], *allLists(&other)[name] = nil, nil
			if !sameFlat(f, other) || !sameFlat(flat(t, s), want) {
				t.Errorf("Flatten(%q): %s shares memory", s, name)
			}
		}
		e, _ := impl.Unflatten(want)
		for i, x := range e.Trees {
			before := copyEns(e)
			for j := range x {
				x[j].Value++
				before.Trees[i][j].Value++
			}
			for j := range x[len(x):cap(x)] {
				x[len(x):cap(x)][j].Value = 99
			}
			if again, _ := impl.Unflatten(want); !sameEns(e, before) || !sameEns(again, ens(t, s)) {
				t.Errorf("Unflatten of %q: tree %d shares memory", s, i)
			}
		}
	}
}
