package tests

import (
	"math/rand"
	"slices"
	"strconv"
	"testing"

	"loop.example/g00762/impl"
)

func TestRegionExamples(t *testing.T) {
	type spans = []impl.Span
	gone := int64(impl.Missing)
	most := int64(impl.MaxFeat)
	for _, c := range []struct {
		s    string
		d    []int64
		want spans
	}{
		{regionEns, []int64{6, 0}, spans{{Lo: 6, Hi: 8}, {Lo: -most, Hi: 0, Gone: true}}},
		{regionEns, []int64{8, gone}, spans{{Lo: 6, Hi: 8}, {Lo: -most, Hi: 0, Gone: true}}},
		{regionEns, []int64{5, 1}, spans{{Lo: -most, Hi: 5}, {Lo: 1, Hi: most}}},
		{regionEns, []int64{9, most}, spans{{Lo: 9, Hi: most}, {Lo: 1, Hi: most}}},
		{regionEns, []int64{gone, gone}, spans{goneOnly, {Lo: -most, Hi: 0, Gone: true}}},
		{regionEns, []int64{gone, 1}, spans{goneOnly, {Lo: 1, Hi: most}}},
		// without trees, and with trees that do not look at the document
		{"1 7", []int64{1}, spans{anything}},
		{"3 0", []int64{gone, 2, -most}, spans{anything, anything, anything}},
		{"6 0", make([]int64, 6), slices.Repeat(spans{anything}, 6)},
		{"2 7 | l5", []int64{1, gone}, spans{anything, anything}},
		{withTrees("2 7", "l5", impl.MaxTrees), []int64{gone, gone}, spans{anything, anything}},
		{"2 7 | l5 | s1:3:1:2:l l1 l1", []int64{1, 4}, spans{anything, {Lo: 4, Hi: most}}},
		// equal trees, equal leaves and leaves that no document reaches
		{"1 0 | s0:5:1:2:l l1 l2 | s0:5:1:2:l l1 l2", []int64{5}, spans{{Lo: -most, Hi: 5, Gone: true}}},
		{"1 0 | s0:5:1:2:l l1 l2 | s0:5:1:2:r l1 l2", []int64{5}, spans{{Lo: -most, Hi: 5}}},
		{"1 0 | s0:5:1:2:l l1 l2 | s0:5:1:2:r l1 l2", []int64{gone}, spans{goneOnly}},
		{"1 0 | s0:5:1:2:l l1 l1 | s0:4:1:2:r l1 l1", []int64{5}, spans{{Lo: 5, Hi: 5, Gone: true}}},
		{"1 0 | s0:5:1:2:l l1 l1 | s0:4:1:2:l l1 l1", []int64{5}, spans{{Lo: 5, Hi: 5}}},
		{"1 0 | s0:5:1:2:r l1 s0:5:3:4:l l2 l3", []int64{gone}, spans{goneOnly}},
		{"1 0 | s0:1000000:1:2:l l1 l2", []int64{gone}, spans{anything}},
		{"1 0 | s0:1000000:1:2:r l1 l2", []int64{most}, spans{anyNum}},
		{"1 0 | s0:-1000000:1:2:r l1 l2", []int64{-most}, spans{{Lo: -most, Hi: -most}}},
		{"1 0 | " + chainTree + " | s0:3:1:2:r l1 l2", []int64{4}, spans{{Lo: 4, Hi: 4}}},
		{"1 0 | " + chainTree + " | s0:3:1:2:r l1 l2", []int64{7}, spans{{Lo: 7, Hi: most}}},
		{withTrees("6 0", fullTree, impl.MaxTrees), []int64{0, 2, 9, 9, 9, 9}, spans{{Lo: -most, Hi: 0, Gone: true}, {Lo: 2, Hi: most, Gone: true}, anything, anything, {Lo: 5, Hi: most}, anything}},
	} {
		if got, ok := impl.RegionOf(ens(t, c.s), c.d); !ok || !slices.Equal(got, c.want) {
			t.Errorf("RegionOf(%q, %v) = %v, %v", c.s, c.d, got, ok)
		}
	}
}

func checkNoRegion(t *testing.T, e impl.Ens, d []int64) {
	t.Helper()
	if got, ok := impl.RegionOf(e, d); ok || len(got) != 0 {
		t.Errorf("RegionOf(%v, %v) = %v, %v", e, d, got, ok)
	}
}

func TestRegionRejects(t *testing.T) {
	for _, e := range badEns() {
		for size := range impl.MaxFeats + 2 {
			checkNoRegion(t, e, make([]int64, size))
			checkNoRegion(t, e, slices.Repeat([]int64{impl.Missing}, size))
		}
	}
	for feats := range impl.MaxFeats {
		for _, tail := range []string{"", " | l7", " | s0:1:1:2:l l1 l2"} {
			e := ens(t, strconv.Itoa(feats+1)+" 5"+tail)
			for _, d := range badDocsOf(feats + 1) {
				checkNoRegion(t, e, d)
			}
		}
	}
}

// plainLeaves are the leaves at which a document ends.
func plainLeaves(e impl.Ens, d []int64) []int64 {
	var ends []int64
	for _, x := range e.Trees {
		path := plainPath(x, d)
		ends = append(ends, path[len(path)-1])
	}
	return ends
}

// checkRegion checks that a region has exactly those of some documents that
// end at the same leaves, and that all of them have the same score and region.
func checkRegion(t *testing.T, e impl.Ens, d []int64, docs [][]int64) (inside int) {
	t.Helper()
	region, ok := impl.RegionOf(e, d)
	if !ok || !impl.BoxHas(region, d) || len(region) != len(d) {
		t.Fatalf("RegionOf(%v, %v) = %v, %v", e, d, region, ok)
	}
	ends, score := plainLeaves(e, d), plainScore(e, d)
	for _, other := range docs {
		has := plainHas(region, other)
		if has != slices.Equal(plainLeaves(e, other), ends) || has != impl.BoxHas(region, other) {
			t.Fatalf("RegionOf(%v, %v) = %v has %v: %v", e, d, region, other, has)
		}
		if !has {
			continue
		}
		inside++
		if got, ok := impl.FullScore(e, other); !ok || got != score {
			t.Fatalf("RegionOf(%v, %v) = %v has %v, of which the score is %d, not %d", e, d, region, other, got, score)
		}
		if again, ok := impl.RegionOf(e, other); !ok || !slices.Equal(again, region) {
			t.Fatalf("RegionOf(%v, %v) = %v, but %v of %v", e, d, region, again, other)
		}
	}
	return inside
}

func boxyEns(r *rand.Rand, feats int) impl.Ens {
	e := impl.Ens{Feats: int64(feats), Bias: r.Int63n(21) - 10}
	for range r.Intn(impl.MaxTrees + 1) {
		e.Trees = append(e.Trees, boxyTree(r, feats))
	}
	return repeatTrees(r, e)
}

func TestAllDocsOfARegionHaveTheScore(t *testing.T) {
	r := rand.New(rand.NewSource(74))
	inside := 0
	for range 150 {
		size := 1 + r.Intn(2)
		e, docs := boxyEns(r, size), fewDocs(size)
		for range 5 {
			inside += checkRegion(t, e, docs[r.Intn(len(docs))], docs)
		}
	}
	if inside < 5000 {
		t.Errorf("only %d documents were in a region", inside)
	}
}

func TestAllDocsOfARegionHaveTheScoreMoreFeatures(t *testing.T) {
	r := rand.New(rand.NewSource(75))
	for range 500 {
		size := 1 + r.Intn(impl.MaxFeats)
		e, d := boxyEns(r, size), randomDoc(r, size)
		region, _ := impl.RegionOf(e, d)
		docs := [][]int64{d, impl.PickOf(region)}
		for range 30 {
			docs = append(docs, docIn(r, region), randomDoc(r, size))
		}
		// just outside of each Span
		for i, s := range region {
			for _, x := range []int64{s.Lo - 1, s.Lo, s.Hi, s.Hi + 1, impl.Missing} {
				if other, ok := impl.DocWith(d, int64(i), x); ok {
					docs = append(docs, other)
				}
			}
		}
		if inside := checkRegion(t, e, d, docs); inside < 32 {
			t.Fatalf("only %d documents were in the region of %v", inside, d)
		}
	}
}

// docIn is a document of a box.
func docIn(r *rand.Rand, b []impl.Span) []int64 {
	d := make([]int64, len(b))
	for i, s := range b {
		switch {
		case s.Lo > s.Hi || s.Gone && r.Intn(3) == 0:
			d[i] = impl.Missing
		case r.Intn(2) == 0:
			d[i] = []int64{s.Lo, s.Hi}[r.Intn(2)]
		default:
			d[i] = s.Lo + r.Int63n(s.Hi-s.Lo+1)
		}
	}
	return d
}

// What a cache of regions returns is the score, and it keeps as many of the
// regions as it may.
func TestCacheOfRegions(t *testing.T) {
	r := rand.New(rand.NewSource(76))
	found, removed := 0, 0
	for range 300 {
		size := 1 + r.Intn(3)
		e, c := boxyEns(r, size), cache(1+r.Int63n(impl.MaxSlots), 0)
		for range 40 {
			d := randomDoc(r, size)
			want := plainScore(e, d)
			next, score, ok := impl.CacheGet(c, d)
			if ok && score != want || !impl.CacheOk(next) {
				t.Fatalf("CacheGet(%v, %v) = %v, %d; the score in %v is %d", c, d, next, score, e, want)
			}
			if ok {
				found++
				c = next
				continue
			}
			region, _ := impl.RegionOf(e, d)
			next, ok = impl.CachePut(c, region, want)
			if !ok || !impl.CacheOk(next) || int64(len(next.Slots)) != min(c.Cap, int64(len(c.Slots))+1) {
				t.Fatalf("CachePut(%v, %v, %d) = %v, %v", c, region, want, next, ok)
			}
			if len(next.Slots) == len(c.Slots) {
				removed++
			}
			if _, score, ok := impl.CacheGet(next, d); !ok || score != want {
				t.Fatalf("CacheGet(%v, %v) = %d, %v", next, d, score, ok)
			}
			c = next
		}
	}
	if found < 1000 || removed < 1000 {
		t.Errorf("%d documents were found, %d Slots were removed", found, removed)
	}
}

func TestCacheArgumentsStay(t *testing.T) {
	list := badCaches()
	for name, c := range goodCaches() {
		list["good: "+name] = c
	}
	filler := impl.Span{Lo: 77}
	for name, c := range list {
		g, check := guardCache(c)
		impl.CacheOk(g)
		for _, d := range [][]int64{{3}, {0, 0}, {impl.Missing}, {-7}, nil, {maxInt}} {
			gd := guard(d, 77)
			got, _, _ := impl.CacheGet(g, gd.list)
			spoilCache(got)
			gd.check(t, d, 77)
		}
		for _, b := range [][]impl.Span{spanBox(0, 5), exampleBox(), nil, {nothing}} {
			gb := guard(b, filler)
			got, _ := impl.CachePut(g, gb.list, 7)
			spoilCache(got)
			gb.check(t, b, filler)
		}
		t.Run(name, check)
	}
}

// The box that is put may be one of the cache.
func TestCachePutOfItsOwnBox(t *testing.T) {
	for at := range 3 {
		c := cache(3, 9, slot(0, 1, 1, 4), slot(0, 2, 2, 4), slot(0, 3, 3, 4))
		before := copyCache(c)
		got, ok := impl.CachePut(c, c.Slots[at].Box, 5)
		want := cache(3, 10, before.Slots[1], before.Slots[2], impl.Slot{Box: before.Slots[at].Box, Score: 5, Used: 10})
		if !ok || !sameCache(got, want) {
			t.Errorf("CachePut of box %d = %v, %v", at, got, ok)
		}
		spoilCache(got)
		if !sameCache(c, before) {
			t.Errorf("the argument %v was modified: %v", before, c)
		}
	}
}

// checkOwnBoxes spoils each box of a cache in turn, and looks at all others.
func checkOwnBoxes(t *testing.T, c impl.Cache) {
	t.Helper()
	for i := range c.Slots {
		want := copyCache(c)
		spoilList(c.Slots[i].Box, impl.Span{Lo: 99})
		spoilList(want.Slots[i].Box, impl.Span{Lo: 99})
		if !sameCache(c, want) {
			t.Errorf("box %d of %v shares memory", i, want)
		}
	}
}

// The boxes of the argument share their memory; those of a result do not.
func TestCacheResultsAreNew(t *testing.T) {
	b := spanBox(0, 5)
	for _, size := range []int64{3, 4} {
		for _, clock := range []int64{9, impl.MaxClock, -1} {
			shared := impl.Slot{Box: b, Score: 1, Used: 3}
			c := cache(size, clock, shared, shared, shared)
			for _, d := range [][]int64{{3}, {6}} {
				got, _, _ := impl.CacheGet(c, d)
				checkOwnBoxes(t, got)
			}
			got, _ := impl.CachePut(c, b, 2)
			checkOwnBoxes(t, got)
			got, _ = impl.CachePut(c, nil, 2)
			checkOwnBoxes(t, got)
		}
	}
	if !slices.Equal(b, spanBox(0, 5)) {
		t.Errorf("the box was modified: %v", b)
	}
}

func TestRegionArgumentsStay(t *testing.T) {
	list := badEns()
	for _, s := range append(goodEnsTexts(), regionEns) {
		list[s] = ens(t, s)
	}
	for name, e := range list {
		g, check := guardEns(e)
		for size := range impl.MaxFeats + 1 {
			for _, x := range []int64{0, impl.Missing, maxInt} {
				d := slices.Repeat([]int64{x}, size)
				gd := guard(d, 77)
				first, ok := impl.RegionOf(g, gd.list)
				want := slices.Clone(first)
				spoilList(first, impl.Span{Lo: 99})
				if again, ok2 := impl.RegionOf(g, gd.list); ok != ok2 || !slices.Equal(again, want) {
					t.Errorf("%s: two results of RegionOf(%v) are %v and %v", name, d, want, again)
				}
				gd.check(t, d, 77)
			}
		}
		t.Run(name, check)
	}
}

// Neither earlier calls nor what became of their results may count.
func TestEqualCaches(t *testing.T) {
	r := rand.New(rand.NewSource(77))
	for range 1000 {
		c, d, b := randomCache(r), randomDoc(r, 1+r.Intn(2)), smallBox(r, 1+r.Intn(2))
		get, score, has := impl.CacheGet(c, d)
		put, _ := impl.CachePut(c, b, 5)
		wantGet, wantPut := copyCache(get), copyCache(put)
		spoilCache(get)
		if !sameCache(put, wantPut) {
			t.Fatalf("results of %v share memory", c)
		}
		spoilCache(put)
		if got, again, ok := impl.CacheGet(copyCache(c), slices.Clone(d)); ok != has || again != score || !sameCache(got, wantGet) {
			t.Fatalf("CacheGet(%v, %v) = %v, %d and %v, %d", c, d, wantGet, score, got, again)
		}
		if got, ok := impl.CachePut(copyCache(c), slices.Clone(b), 5); !ok || !sameCache(got, wantPut) {
			t.Fatalf("CachePut(%v, %v) = %v and %v", c, b, wantPut, got)
		}
	}
}
