package tests

import (
	"cmp"
	"math/rand"
	"slices"
	"strconv"
	"testing"

	"loop.example/g00762/impl"
)

const rankEns = "1 0 | s0:5:1:2:l l10 l-4 | s0:2:1:2:l l1 l-1"

// docsOf are documents with one number.
func docsOf(nums ...int64) [][]int64 {
	var docs [][]int64
	for _, x := range nums {
		docs = append(docs, []int64{x})
	}
	return docs
}

func zeroDocs(count, size int) [][]int64 {
	docs := make([][]int64, count)
	for i := range docs {
		docs[i] = make([]int64, size)
	}
	return docs
}

// plainBest sorts all Hits, and then takes the first ones.
func plainBest(hits []impl.Hit, k int64) []impl.Hit {
	list := slices.Clone(hits)
	slices.SortStableFunc(list, func(a, b impl.Hit) int {
		return cmp.Or(cmp.Compare(b.Score, a.Score), cmp.Compare(a.Index, b.Index))
	})
	return list[:max(0, min(k, int64(len(list))))]
}

func plainTop(e impl.Ens, docs [][]int64, k int64) []impl.Hit {
	var hits []impl.Hit
	for i, d := range docs {
		hits = append(hits, impl.Hit{Index: int64(i), Score: plainScore(e, d)})
	}
	return plainBest(hits, k)
}

// plainCosts are the costs of the documents in a ranking. A document can still
// be one of the best if it is among them with the greatest score that its
// bounds allow.
func plainCosts(e impl.Ens, p impl.Plan, docs [][]int64, k int64) []int64 {
	var costs []int64
	var hits []impl.Hit
	for i, d := range docs {
		s, ends := impl.State{}, p.Ends
		for len(ends) > 0 {
			_, high := plainBounds(e, p, s)
			hit := impl.Hit{Index: int64(i), Score: high}
			if !slices.Contains(plainBest(append(slices.Clone(hits), hit), k), hit) {
				break
			}
			s, ends = plainState(e, p, d, ends[0]), ends[1:]
		}
		costs = append(costs, s.Cost)
		if len(ends) == 0 {
			hits = append(hits, impl.Hit{Index: int64(i), Score: plainScore(e, d)})
		}
	}
	return costs
}

func plainSum(list []int64) int64 {
	sum := int64(0)
	for _, x := range list {
		sum += x
	}
	return sum
}

func TestHitLess(t *testing.T) {
	if impl.MaxDocs != 20 {
		t.Error("a constant is different")
	}
	var hits []impl.Hit
	nums := []int64{minInt, minInt + 1, -5, -1, 0, 1, 2, 5, maxInt - 1, maxInt}
	// from the best one to the worst one
	for _, score := range slices.Backward(nums) {
		for _, index := range nums {
			hits = append(hits, impl.Hit{Index: index, Score: score})
		}
	}
	for i, a := range hits {
		for j, b := range hits {
			if got := impl.HitLess(a, b); got != (i < j) {
				t.Errorf("HitLess(%v, %v) is %v", a, b, got)
			}
		}
	}
}

// hitList is a list of Hits in pairs of Index and Score.
func hitList(nums ...int64) []impl.Hit {
	var list []impl.Hit
	for pair := range slices.Chunk(nums, 2) {
		list = append(list, impl.Hit{Index: pair[0], Score: pair[1]})
	}
	return list
}

func TestTopExamples(t *testing.T) {
	gone := int64(impl.Missing)
	for _, c := range []struct {
		s     string
		order []int64
		ends  []int64
		docs  [][]int64
		k     int64
		want  []impl.Hit
		cost  int64
	}{
		{rankEns, []int64{0, 1}, []int64{1, 2}, docsOf(9, 3, 1, 2, 8), 3, hitList(2, 11, 3, 11, 1, 9), 9},
		{rankEns, []int64{0, 1}, []int64{1, 2}, docsOf(9, 3, 1, 2, 8), 2, hitList(2, 11, 3, 11), 8},
		{rankEns, []int64{0, 1}, []int64{1, 2}, docsOf(9, 3, 1, 2, 8), 1, hitList(2, 11), 6},
		{rankEns, []int64{0, 1}, []int64{1, 2}, docsOf(9, 3, 1, 2, 8), 0, nil, 0},
		{rankEns, []int64{0, 1}, []int64{1, 2}, docsOf(9, 3, 1, 2, 8), 4, hitList(2, 11, 3, 11, 1, 9, 0, -5), 10},
		{rankEns, []int64{0, 1}, []int64{1, 2}, docsOf(9, 3, 1, 2, 8), 5, hitList(2, 11, 3, 11, 1, 9, 0, -5, 4, -5), 10},
		{rankEns, []int64{0, 1}, []int64{1, 2}, docsOf(9, 3, 1, 2, 8), impl.MaxDocs, hitList(2, 11, 3, 11, 1, 9, 0, -5, 4, -5), 10},
		{rankEns, []int64{0, 1}, []int64{2}, docsOf(9, 3, 1, 2, 8), 3, hitList(2, 11, 3, 11, 1, 9), 10},
		// left before the first tree, behind it, and behind all
		{rankEns, []int64{0, 1}, []int64{1, 2}, docsOf(1, 9), 1, hitList(0, 11), 2},
		{rankEns, []int64{0, 1}, []int64{1, 2}, docsOf(3, 9), 1, hitList(0, 9), 3},
		{rankEns, []int64{0, 1}, []int64{2}, docsOf(3, 9), 1, hitList(0, 9), 4},
		{rankEns, []int64{1, 0}, []int64{1, 2}, docsOf(3, 9), 1, hitList(0, 9), 3},
		{rankEns, []int64{0, 1}, []int64{1, 2}, docsOf(9, 3), 1, hitList(1, 9), 4},
		// equal scores and equal documents: the earlier one is better
		{rankEns, []int64{0, 1}, []int64{1, 2}, docsOf(3, 3), 1, hitList(0, 9), 4},
		{rankEns, []int64{1, 0}, []int64{1, 2}, docsOf(3, 3, 3), 1, hitList(0, 9), 4},
		{rankEns, []int64{1, 0}, []int64{1, 2}, docsOf(3, 3, 3), 2, hitList(0, 9, 1, 9), 5},
		{rankEns, []int64{0, 1}, []int64{1, 2}, docsOf(1, 2, gone), 2, hitList(0, 11, 1, 11), 4},
		{rankEns, []int64{0, 1}, []int64{1, 2}, docsOf(gone, 2, 1), 2, hitList(0, 11, 1, 11), 4},
		{rankEns, []int64{0, 1}, []int64{1, 2}, docsOf(3, 9, 8, 4), 3, hitList(0, 9, 3, 9, 1, -5), 8},
		{rankEns, []int64{0, 1}, []int64{1, 2}, nil, 3, nil, 0},
		{rankEns, []int64{0, 1}, []int64{1, 2}, nil, 0, nil, 0},
		{"1 7", nil, nil, docsOf(5, 6, 5, gone), 2, hitList(0, 7, 1, 7), 0},
		{"1 7", nil, nil, docsOf(5, 6), 3, hitList(0, 7, 1, 7), 0},
		{"1 7", nil, nil, docsOf(5, 6), 0, nil, 0},
		{"1 7", nil, nil, nil, 1, nil, 0},
		{"1 7 | l5 | l-6", []int64{1, 0}, []int64{1, 2}, docsOf(5, 6, 5), 2, hitList(0, 6, 1, 6), 0},
		{"1 1 | s0:5:1:2:l l3 l4 | s0:5:1:2:l l3 l4", []int64{1, 0}, []int64{1, 2}, docsOf(5, 6, 5, 6, 7), 2, hitList(1, 9, 3, 9), 8},
		{"1 -9 | s0:5:1:2:l l3 l3", []int64{0}, []int64{1}, docsOf(5, 6, 5), 2, hitList(0, -6, 1, -6), 2},
	} {
		e := ens(t, c.s)
		p := endsPlan(t, e, c.order, c.ends...)
		if got, ok := impl.FullTop(e, c.docs, c.k); !ok || !slices.Equal(got, c.want) {
			t.Errorf("FullTop(%q, %v, %d) = %v, %v", c.s, c.docs, c.k, got, ok)
		}
		if got, cost, ok := impl.TopK(e, p, c.docs, c.k); !ok || !slices.Equal(got, c.want) || cost != c.cost {
			t.Errorf("TopK(%q, %v %v, %v, %d) = %v, %d, %v", c.s, c.order, c.ends, c.docs, c.k, got, cost, ok)
		}
	}
}

func TestMostDocs(t *testing.T) {
	e := ens(t, rankEns)
	p := plan(t, e, 1, 1)
	docs := docsOf(9, 3, 1, 2, 8, 9, 3, 1, 2, 8, 9, 3, 1, 2, 8, 9, 3, 1, 2, 8)
	want := plainTop(e, docs, impl.MaxDocs)
	if len(want) != 20 || want[7] != (impl.Hit{Index: 18, Score: 11}) || want[19] != (impl.Hit{Index: 19, Score: -5}) {
		t.Fatal(want)
	}
	for k := range int64(impl.MaxDocs + 1) {
		checkTop(t, e, []impl.Plan{p}, docs, k)
	}
	for _, k := range []int64{0, 1, impl.MaxDocs} {
		checkNoTop(t, e, p, append(docs, []int64{1}), k)
		checkNoTop(t, e, p, slices.Repeat(docsOf(1), 1000), k)
	}
}

// checkTop compares all of a ranking, and returns the cost without pruning and the greatest cost.
func checkTop(t *testing.T, e impl.Ens, plans []impl.Plan, docs [][]int64, k int64) (full, most int64) {
	t.Helper()
	want := plainTop(e, docs, k)
	if got, ok := impl.FullTop(e, docs, k); !ok || !slices.Equal(got, want) {
		t.Fatalf("FullTop(%v, %v, %d) = %v, %v instead of %v", e, docs, k, got, ok, want)
	}
	for _, d := range docs {
		full += plainCost(e, d)
	}
	for _, p := range plans {
		got, cost, ok := impl.TopK(e, p, docs, k)
		if !ok || !slices.Equal(got, want) {
			t.Fatalf("TopK(%v, %v, %v, %d) = %v, %v instead of %v", e, p, docs, k, got, ok, want)
		}
		if costs := plainCosts(e, p, docs, k); cost != plainSum(costs) || cost > full {
			t.Fatalf("TopK(%v, %v, %v, %d) has the cost %d instead of %v; %d without pruning", e, p, docs, k, cost, costs, full)
		}
		most = max(most, cost)
	}
	return full, most
}

// rankDocs has equal documents.
func rankDocs(r *rand.Rand, count int, size int) [][]int64 {
	var docs [][]int64
	for range count {
		if len(docs) > 0 && r.Intn(4) == 0 {
			docs = append(docs, slices.Clone(docs[r.Intn(len(docs))]))
			continue
		}
		docs = append(docs, randomDoc(r, size))
	}
	return docs
}

func TestTopOfAnyPlan(t *testing.T) {
	r := rand.New(rand.NewSource(61))
	saved, equal := 0, 0
	for i := range 1500 {
		e := planningEns(r, r.Intn(impl.MaxTrees+1))
		if i%3 == 0 {
			e = randomEns(r, 1+r.Intn(impl.MaxFeats))
		}
		docs := rankDocs(r, r.Intn(impl.MaxDocs+1), int(e.Feats))
		plans := []impl.Plan{randomPlan(r, e), randomPlan(r, e), plan(t, e, 1+r.Int63n(3), 1+r.Int63n(impl.MaxTrees)), plan(t, e, 2, 1), plan(t, e, 3, impl.MaxTrees)}
		for _, k := range []int64{0, 1, 2, 3, r.Int63n(impl.MaxDocs + 1), impl.MaxDocs} {
			if full, most := checkTop(t, e, plans, docs, k); k > 0 && most < full {
				saved++
			}
			if best := plainTop(e, docs, k); len(best) > 1 && best[0].Score == best[len(best)-1].Score {
				equal++
			}
		}
	}
	if saved < 500 || equal < 200 {
		t.Errorf("%d rankings cost less than all trees, %d have equal scores", saved, equal)
	}
}

func checkNoTop(t *testing.T, e impl.Ens, p impl.Plan, docs [][]int64, k int64) {
	t.Helper()
	if hits, ok := impl.FullTop(e, docs, k); ok || len(hits) != 0 {
		t.Errorf("FullTop(%v, %v, %d) = %v, %v", e, docs, k, hits, ok)
	}
	checkNoTopK(t, e, p, docs, k)
}

func checkNoTopK(t *testing.T, e impl.Ens, p impl.Plan, docs [][]int64, k int64) {
	t.Helper()
	if hits, cost, ok := impl.TopK(e, p, docs, k); ok || cost != 0 || len(hits) != 0 {
		t.Errorf("TopK(%v, %v, %v, %d) = %v, %d, %v", e, p, docs, k, hits, cost, ok)
	}
}

func TestTopRejectsNumbers(t *testing.T) {
	for _, s := range []string{rankEns, "1 7", "1 7 | l5", withTrees("1 9", "s0:5:1:2:l l10 l-4", impl.MaxTrees)} {
		e := ens(t, s)
		for _, k := range []int64{-1, impl.MaxDocs + 1, -impl.MaxDocs, 100, 1<<32 + 1, minInt, maxInt} {
			for _, count := range []int{0, 1, 5, impl.MaxDocs} {
				checkNoTop(t, e, plan(t, e, 1, 1), zeroDocs(count, 1), k)
			}
		}
	}
}

// A document that is never evaluated is checked as well.
func TestTopRejectsDocs(t *testing.T) {
	for feats := range impl.MaxFeats {
		for _, tail := range []string{"", " | l7", " | s0:1:1:2:l l1 l2"} {
			e := ens(t, strconv.Itoa(feats+1)+" 5"+tail)
			for _, d := range badDocsOf(feats + 1) {
				for _, k := range []int64{0, 1, 3, impl.MaxDocs} {
					p := plan(t, e, 1, 1)
					checkNoTop(t, e, p, [][]int64{d}, k)
					checkNoTop(t, e, p, slices.Insert(zeroDocs(4, feats+1), 0, d), k)
					checkNoTop(t, e, p, slices.Insert(zeroDocs(4, feats+1), 2, d), k)
					checkNoTop(t, e, p, append(zeroDocs(impl.MaxDocs-1, feats+1), d), k)
				}
			}
		}
	}
}

func TestTopRejectsPlans(t *testing.T) {
	e := ens(t, planEns)
	for _, p := range wrongPlans(t) {
		for _, k := range []int64{0, 1, 20, 21, -1} {
			checkNoTopK(t, e, p, docsOf(3, 9), k)
			checkNoTopK(t, e, p, nil, k)
		}
	}
	empty := ens(t, "1 9")
	for _, p := range []impl.Plan{{}, {Mins: []int64{0}}, {Maxs: []int64{0}}, plan(t, e, 1, 1)} {
		checkNoTopK(t, empty, p, docsOf(3), 1)
		checkNoTopK(t, empty, p, nil, 0)
	}
}

func TestTopRejectsEns(t *testing.T) {
	for _, e := range badEns() {
		for _, p := range plansForBad(e) {
			for size := range impl.MaxFeats + 1 {
				checkNoTop(t, e, p, zeroDocs(2, size), 1)
			}
			checkNoTop(t, e, p, nil, 0)
			checkNoTop(t, e, p, nil, impl.MaxDocs)
		}
	}
}

func TestTopMergedExamples(t *testing.T) {
	a, b := hitList(2, 11, 3, 11, 1, 9), hitList(7, 12, 2, 11, 5, 9)
	for _, c := range []struct {
		a, b []impl.Hit
		k    int64
		want []impl.Hit
	}{
		{a, b, 6, hitList(7, 12, 2, 11, 2, 11, 3, 11, 1, 9, 5, 9)},
		{a, b, 5, hitList(7, 12, 2, 11, 2, 11, 3, 11, 1, 9)},
		{a, b, 3, hitList(7, 12, 2, 11, 2, 11)},
		{a, b, 2, hitList(7, 12, 2, 11)},
		{a, b, 1, hitList(7, 12)},
		{a, b, 0, nil},
		{a, b, -1, nil},
		{a, b, minInt, nil},
		{a, b, 7, hitList(7, 12, 2, 11, 2, 11, 3, 11, 1, 9, 5, 9)},
		{a, b, 21, hitList(7, 12, 2, 11, 2, 11, 3, 11, 1, 9, 5, 9)},
		{a, b, 1 << 32, hitList(7, 12, 2, 11, 2, 11, 3, 11, 1, 9, 5, 9)},
		{a, b, maxInt, hitList(7, 12, 2, 11, 2, 11, 3, 11, 1, 9, 5, 9)},
		{a, a, 4, hitList(2, 11, 2, 11, 3, 11, 3, 11)},
		{a[1:], a[:1], 2, hitList(2, 11, 3, 11)},
		{a, nil, 2, hitList(2, 11, 3, 11)},
		{nil, a, 9, a},
		{[]impl.Hit{}, a, 3, a},
		{nil, nil, 3, nil},
		{[]impl.Hit{}, []impl.Hit{}, 0, nil},
		{nil, nil, maxInt, nil},
		{nil, nil, -1, nil},
		// lists need neither be sorted nor have Hits of documents
		{hitList(1, 2, 0, 2, 5, 7, 5, 7), hitList(9, 7, 0, 2, 4, 7), 5, hitList(4, 7, 5, 7, 5, 7, 9, 7, 0, 2)},
		{hitList(0, minInt, 0, maxInt), hitList(minInt, 0, maxInt, 0), 4, hitList(0, maxInt, minInt, 0, maxInt, 0, 0, minInt)},
		{hitList(0, minInt), hitList(maxInt, minInt, minInt, minInt), 2, hitList(minInt, minInt, 0, minInt)},
		{hitList(0, 0, 0, 0, 0, 0), hitList(0, 0), 3, hitList(0, 0, 0, 0, 0, 0)},
	} {
		if got := impl.TopMerged(c.a, c.b, c.k); !slices.Equal(got, c.want) {
			t.Errorf("TopMerged(%v, %v, %d) = %v", c.a, c.b, c.k, got)
		}
		if got := impl.TopMerged(c.b, c.a, c.k); !slices.Equal(got, c.want) {
			t.Errorf("TopMerged(%v, %v, %d) = %v", c.b, c.a, c.k, got)
		}
	}
	long := slices.Repeat(a, 10000)
	if got := impl.TopMerged(long, long, maxInt); len(got) != 60000 || !slices.Equal(got, plainBest(append(long, long...), maxInt)) {
		t.Errorf("TopMerged of long lists has %d Hits", len(got))
	}
}

func randomHits(r *rand.Rand, count int) []impl.Hit {
	var hits []impl.Hit
	for range count {
		hits = append(hits, impl.Hit{Index: r.Int63n(7) - 3, Score: r.Int63n(5) - 2})
	}
	return hits
}

func TestTopMergedOfAnyHits(t *testing.T) {
	r := rand.New(rand.NewSource(62))
	for range 5000 {
		a, b, k := randomHits(r, r.Intn(30)), randomHits(r, r.Intn(30)), r.Int63n(70)-2
		want := plainBest(slices.Concat(a, b), k)
		if got := impl.TopMerged(a, b, k); !slices.Equal(got, want) {
			t.Fatalf("TopMerged(%v, %v, %d) = %v instead of %v", a, b, k, got, want)
		}
	}
}

// The best of two parts, merged, are the best of all.
func TestPartsMerged(t *testing.T) {
	r := rand.New(rand.NewSource(63))
	for range 1000 {
		e := planningEns(r, r.Intn(6))
		docs := rankDocs(r, r.Intn(impl.MaxDocs+1), 2)
		p, k, cut := randomPlan(r, e), r.Int63n(impl.MaxDocs+1), r.Intn(len(docs)+1)
		all, _ := impl.FullTop(e, docs, k)
		first, ok1 := impl.FullTop(e, docs[:cut], k)
		second, _, ok2 := impl.TopK(e, p, docs[cut:], k)
		for i := range second {
			second[i].Index += int64(cut)
		}
		if got := impl.TopMerged(first, second, k); !ok1 || !ok2 || !slices.Equal(got, all) {
			t.Fatalf("TopMerged(%v, %v, %d) = %v instead of %v", first, second, k, got, all)
		}
		if got := impl.TopMerged(second, first, k); !slices.Equal(got, all) {
			t.Fatalf("TopMerged(%v, %v, %d) = %v instead of %v", second, first, k, got, all)
		}
	}
}

func TestRankArgumentsStay(t *testing.T) {
	list := badEns()
	for _, s := range append(flatTexts(), planEns, rankEns) {
		list[s] = ens(t, s)
	}
	filler := impl.Hit{Index: 99, Score: 99}
	r := rand.New(rand.NewSource(64))
	for name, e := range list {
		for _, docs := range [][][]int64{nil, rankDocs(r, 6, int(max(1, min(6, e.Feats)))), rankDocs(r, 21, 1), append(badDocs(), []int64{1})} {
			for _, p := range plansForBad(e) {
				g, checkEns := guardEns(e)
				q, checkPlan := guardPlan(p)
				gd, checkDocs := guardLists(docs, 77)
				for _, k := range []int64{-1, 0, 1, 2, 20, 21} {
					full, _ := impl.FullTop(g, gd, k)
					top, _, _ := impl.TopK(g, q, gd, k)
					spoilList(full, filler)
					spoilList(top, filler)
				}
				t.Run(name, func(t *testing.T) {
					checkEns(t)
					checkPlan(t)
					checkDocs(t)
				})
			}
		}
	}
	for range 300 {
		a, b := randomHits(r, r.Intn(9)), randomHits(r, r.Intn(9))
		ga, gb := guard(a, filler), guard(b, filler)
		for k := int64(-1); k < 20; k++ {
			spoilList(impl.TopMerged(ga.list, gb.list, k), impl.Hit{Index: 55})
			spoilList(impl.TopMerged(ga.list, ga.list, k), impl.Hit{Index: 55})
			spoilList(impl.TopMerged(nil, gb.list, k), impl.Hit{Index: 55})
		}
		ga.check(t, a, filler)
		gb.check(t, b, filler)
	}
}

// Neither earlier calls nor what became of their results may count.
func TestEqualRanks(t *testing.T) {
	r := rand.New(rand.NewSource(65))
	for range 300 {
		e := planningEns(r, r.Intn(impl.MaxTrees+1))
		p, docs, k := randomPlan(r, e), rankDocs(r, r.Intn(impl.MaxDocs+1), 2), r.Int63n(impl.MaxDocs+1)
		first, cost, _ := impl.TopK(e, p, docs, k)
		full, _ := impl.FullTop(e, docs, k)
		merged := impl.TopMerged(first, full, k)
		want, wantMerged := slices.Clone(first), slices.Clone(merged)
		spoilList(first, impl.Hit{Index: 99})
		if !slices.Equal(full, want) || !slices.Equal(merged, wantMerged) {
			t.Fatalf("results of %v, %v, %d share memory", e, docs, k)
		}
		again, costAgain, _ := impl.TopK(copyEns(e), copyPlan(p), docs, k)
		if !slices.Equal(again, want) || cost != costAgain {
			t.Fatalf("TopK(%v, %v, %v, %d) = %v, %d and %v, %d", e, p, docs, k, want, cost, again, costAgain)
		}
		if got := impl.TopMerged(again, full, k); !slices.Equal(got, wantMerged) {
			t.Fatalf("TopMerged(%v, %v, %d) = %v and %v", again, full, k, wantMerged, got)
		}
	}
}
