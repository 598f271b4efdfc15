package tests

import (
	"math/rand"
	"slices"
	"strconv"
	"testing"

	"loop.example/g00762/impl"
)

const regionEns = "2 0 | s0:5:1:2:l l1 l2 | s0:8:1:2:r l3 l4 | s1:0:1:2:l l5 l6"

func spanBox(lo, hi int64) []impl.Span {
	return []impl.Span{{Lo: lo, Hi: hi}}
}

// slot has a box of one Span.
func slot(lo, hi, score, used int64) impl.Slot {
	return impl.Slot{Box: spanBox(lo, hi), Score: score, Used: used}
}

func cache(size, clock int64, slots ...impl.Slot) impl.Cache {
	return impl.Cache{Cap: size, Clock: clock, Slots: slots}
}

func copyCache(c impl.Cache) impl.Cache {
	slots := make([]impl.Slot, len(c.Slots))
	for i, s := range c.Slots {
		slots[i] = impl.Slot{Box: slices.Clone(s.Box), Score: s.Score, Used: s.Used}
	}
	c.Slots = slots
	return c
}

func sameSlot(a, b impl.Slot) bool {
	return a.Score == b.Score && a.Used == b.Used && slices.Equal(a.Box, b.Box)
}

func sameCache(a, b impl.Cache) bool {
	return a.Cap == b.Cap && a.Clock == b.Clock && slices.EqualFunc(a.Slots, b.Slots, sameSlot)
}

// spoilCache writes to all memory of a cache, also to what is behind its lists.
func spoilCache(c impl.Cache) {
	for _, s := range c.Slots[:cap(c.Slots)] {
		spoilList(s.Box, impl.Span{Lo: 99})
	}
	spoilList(c.Slots, slot(98, 99, 99, 99))
}

// guardCache is a cache with spare capacity behind each of its lists.
func guardCache(c impl.Cache) (guarded impl.Cache, check func(t *testing.T)) {
	before := copyCache(c)
	var boxes [][]impl.Span
	for _, s := range c.Slots {
		boxes = append(boxes, s.Box)
	}
	boxes, checkBoxes := guardLists(boxes, impl.Span{Lo: 77})
	guarded = c
	guarded.Slots = make([]impl.Slot, len(c.Slots), len(c.Slots)+3)
	for i, s := range c.Slots {
		guarded.Slots[i] = impl.Slot{Box: boxes[i], Score: s.Score, Used: s.Used}
	}
	return guarded, func(t *testing.T) {
		t.Helper()
		checkBoxes(t)
		if !sameCache(guarded, before) {
			t.Errorf("the argument %v was modified: %v", before, guarded)
		}
		for _, s := range guarded.Slots[len(guarded.Slots):cap(guarded.Slots)] {
			if !sameSlot(s, impl.Slot{}) {
				t.Errorf("the memory behind the Slots of %v was modified: %v", before, s)
			}
		}
	}
}

// goodCaches are valid.
func goodCaches() map[string]impl.Cache {
	many := slices.Repeat([]impl.Slot{slot(0, 5, 1, 3)}, impl.MaxSlots)
	list := map[string]impl.Cache{
		"least":              cache(1, 0),
		"greatest Cap":       cache(impl.MaxSlots, 0),
		"greatest Clock":     cache(2, impl.MaxClock),
		"not nil":            {Cap: 3, Clock: 7, Slots: []impl.Slot{}},
		"one of one":         cache(1, 5, slot(0, 5, 1, 5)),
		"Used 0":             cache(3, 5, slot(0, 5, 1, 0), slot(0, 5, 1, 5)),
		"all 0":              cache(2, 0, slot(0, 5, 0, 0), slot(0, 5, 0, 0)),
		"any Score":          cache(4, 1, slot(0, 5, minInt, 0), slot(6, 9, maxInt, 1), slot(1, 1, impl.MaxScore+1, 1)),
		"as many as Cap":     cache(2, 9, slot(0, 5, 1, 3), slot(3, 9, 1, 9)),
		"as many as any Cap": cache(impl.MaxSlots, 9, many...),
		"Used MaxClock":      cache(2, impl.MaxClock, slot(0, 5, 1, impl.MaxClock), slot(0, 5, 2, 0)),
	}
	lengths := cache(impl.MaxSlots, 9)
	for size := range impl.MaxFeats {
		lengths.Slots = append(lengths.Slots, impl.Slot{Box: slices.Repeat([]impl.Span{goneOnly}, size+1), Used: int64(size)})
	}
	list["all lengths"] = lengths
	for i, s := range goodSpans() {
		list["good Span "+strconv.Itoa(i)] = cache(2, 9, slot(0, 5, 1, 3), impl.Slot{Box: []impl.Span{{}, s}, Score: 2, Used: 9})
	}
	return list
}

// badCaches are not valid.
func badCaches() map[string]impl.Cache {
	good, other := slot(0, 5, 1, 3), slot(3, 9, 2, 0)
	list := map[string]impl.Cache{"zero": {}, "no Cap": cache(0, 9, good)}
	for _, size := range []int64{0, -1, impl.MaxSlots + 1, 100, 1<<32 + 1, minInt, maxInt} {
		name := "Cap " + strconv.FormatInt(size, 10)
		list[name] = cache(size, 9)
		list[name+" and a Slot"] = cache(size, 9, good)
	}
	for _, clock := range []int64{-1, impl.MaxClock + 1, minInt, maxInt} {
		name := "Clock " + strconv.FormatInt(clock, 10)
		list[name] = cache(2, clock)
		list[name+" and Slots"] = cache(2, clock, slot(0, 5, 1, clock), other)
	}
	for size := range int64(impl.MaxSlots) {
		name := "more than Cap " + strconv.FormatInt(size+1, 10)
		list[name] = cache(size+1, 9, slices.Repeat([]impl.Slot{good}, int(size)+2)...)
	}
	list["very many Slots"] = cache(impl.MaxSlots, 9, slices.Repeat([]impl.Slot{good}, 1000)...)
	for _, used := range []int64{-1, 10, minInt, maxInt} {
		name := "Used " + strconv.FormatInt(used, 10)
		list[name+" first"] = cache(3, 9, slot(0, 5, 1, used), other)
		list[name+" last"] = cache(3, 9, good, other, slot(0, 5, 1, used))
	}
	list["Used 1 at 0"] = cache(1, 0, slot(0, 5, 1, 1))
	list["Used beyond MaxClock"] = cache(1, impl.MaxClock, slot(0, 5, 1, impl.MaxClock+1))
	for i, b := range badBoxes() {
		name := "bad box " + strconv.Itoa(i)
		list[name+" first"] = cache(2, 9, impl.Slot{Box: b, Score: 1, Used: 3}, good)
		list[name+" last"] = cache(8, 9, good, other, impl.Slot{Box: b, Score: 1, Used: 3})
	}
	return list
}

func checkNoGet(t *testing.T, c impl.Cache, d []int64) {
	t.Helper()
	if got, score, ok := impl.CacheGet(c, d); ok || score != 0 || !sameCache(got, c) {
		t.Errorf("CacheGet(%v, %v) = %v, %d, %v", c, d, got, score, ok)
	}
}

func checkNoPut(t *testing.T, c impl.Cache, b []impl.Span, score int64) {
	t.Helper()
	if got, ok := impl.CachePut(c, b, score); ok || !sameCache(got, c) {
		t.Errorf("CachePut(%v, %v, %d) = %v, %v", c, b, score, got, ok)
	}
}

func TestGoodCaches(t *testing.T) {
	if impl.MaxSlots != 8 || impl.MaxClock != 1000000000 {
		t.Error("a constant is different")
	}
	for name, c := range goodCaches() {
		if !impl.CacheOk(c) {
			t.Errorf("%s: CacheOk is false", name)
		}
	}
}

func TestBadCaches(t *testing.T) {
	for name, c := range badCaches() {
		if impl.CacheOk(c) {
			t.Errorf("%s: CacheOk is true", name)
		}
		t.Run(name, func(t *testing.T) {
			for _, d := range [][]int64{{4}, {0}, {impl.Missing}, {0, 0}, {0, 0, 1}, nil, {maxInt}} {
				checkNoGet(t, c, d)
			}
			for _, b := range [][]impl.Span{spanBox(0, 5), {goneOnly}, exampleBox(), nil, spanBox(2, 1)} {
				checkNoPut(t, c, b, 7)
			}
		})
	}
}

func TestCacheExample(t *testing.T) {
	c, one := impl.CachePut(cache(2, 0), spanBox(0, 5), 10)
	c, two := impl.CachePut(c, spanBox(3, 9), 20)
	if want := cache(2, 2, slot(0, 5, 10, 1), slot(3, 9, 20, 2)); !one || !two || !sameCache(c, want) {
		t.Fatal(c)
	}
	c, score, ok := impl.CacheGet(c, []int64{4})
	if want := cache(2, 3, slot(0, 5, 10, 3), slot(3, 9, 20, 2)); !ok || score != 10 || !sameCache(c, want) {
		t.Fatal(c, score, ok)
	}
	c, ok = impl.CachePut(c, spanBox(20, 30), 30)
	if want := cache(2, 4, slot(0, 5, 10, 3), slot(20, 30, 30, 4)); !ok || !sameCache(c, want) {
		t.Fatal(c, ok)
	}
}

func TestCacheGetExamples(t *testing.T) {
	gone := int64(impl.Missing)
	mixed := cache(5, 9,
		impl.Slot{Box: []impl.Span{goneOnly}, Score: 1, Used: 9},
		impl.Slot{Box: []impl.Span{{Lo: 0, Hi: 5, Gone: true}}, Score: 2, Used: 0},
		impl.Slot{Box: exampleBox(), Score: 3, Used: 2},
		impl.Slot{Box: []impl.Span{anything, goneOnly}, Score: 4, Used: 2},
		impl.Slot{Box: []impl.Span{anything, anything}, Score: minInt, Used: 2})
	for _, c := range []struct {
		c     impl.Cache
		d     []int64
		score int64
		at    int
	}{
		{cache(2, 2, slot(0, 5, 10, 1), slot(3, 9, 20, 2)), []int64{4}, 10, 0},
		{cache(2, 2, slot(0, 5, 10, 1), slot(3, 9, 20, 2)), []int64{0}, 10, 0},
		{cache(2, 2, slot(0, 5, 10, 1), slot(3, 9, 20, 2)), []int64{5}, 10, 0},
		{cache(2, 2, slot(0, 5, 10, 1), slot(3, 9, 20, 2)), []int64{6}, 20, 1},
		{cache(2, 2, slot(0, 5, 10, 1), slot(3, 9, 20, 2)), []int64{9}, 20, 1},
		// the first one of several, whatever its Used and its Score
		{cache(3, 9, slot(3, 9, 20, 0), slot(0, 5, 10, 9)), []int64{4}, 20, 0},
		{cache(3, 9, slot(3, 9, 20, 9), slot(0, 5, 10, 0)), []int64{4}, 20, 0},
		{cache(3, 9, slot(0, 0, 1, 9), slot(0, 5, 0, 5), slot(0, 5, 8, 5)), []int64{3}, 0, 1},
		{cache(3, 9, slot(0, 5, -1, 5), slot(0, 5, -1, 5), slot(0, 5, -1, 5)), []int64{3}, -1, 0},
		{cache(1, 0, slot(0, 5, maxInt, 0)), []int64{3}, maxInt, 0},
		{cache(1, impl.MaxClock-1, slot(0, 5, 6, impl.MaxClock-1)), []int64{3}, 6, 0},
		{mixed, []int64{gone}, 1, 0},
		{mixed, []int64{0}, 2, 1},
		{mixed, []int64{1, 3, gone}, 3, 2},
		{mixed, []int64{5, gone, gone}, 3, 2},
		{mixed, []int64{gone, gone}, 4, 3},
		{mixed, []int64{impl.MaxFeat, gone}, 4, 3},
		{mixed, []int64{gone, -impl.MaxFeat}, minInt, 4},
	} {
		want := copyCache(c.c)
		want.Clock++
		want.Slots[c.at].Used = want.Clock
		if got, score, ok := impl.CacheGet(c.c, c.d); !ok || score != c.score || !sameCache(got, want) {
			t.Errorf("CacheGet(%v, %v) = %v, %d, %v", c.c, c.d, got, score, ok)
		}
	}
	for _, d := range [][]int64{{-1}, {6}, {1, 3, 1}, {0, 3, gone}, {1, 4, gone}, {gone, gone, gone}, {0, 0, 0, 0}, slices.Repeat([]int64{gone}, 6)} {
		checkNoGet(t, mixed, d)
	}
}

func TestCacheGetWithoutSlot(t *testing.T) {
	for name, c := range goodCaches() {
		t.Run(name, func(t *testing.T) {
			checkNoGet(t, c, []int64{-7})
			for _, d := range badDocs() {
				checkNoGet(t, c, d)
			}
			if len(c.Slots) == 0 {
				checkNoGet(t, c, []int64{0})
				checkNoGet(t, c, []int64{impl.Missing, 1})
			}
		})
	}
	for size := 1; size <= impl.MaxFeats; size++ {
		c := cache(1, 5, impl.Slot{Box: slices.Repeat([]impl.Span{anything}, size), Score: 4, Used: 2})
		for _, d := range badDocsOf(size) {
			checkNoGet(t, c, d)
		}
		if _, score, ok := impl.CacheGet(c, make([]int64, size)); !ok || score != 4 {
			t.Errorf("CacheGet of %d numbers = %d, %v", size, score, ok)
		}
	}
}

func TestCachePutExamples(t *testing.T) {
	a, b, c := slot(0, 5, 1, 3), slot(3, 9, 2, 1), slot(0, 5, 3, 2)
	for _, x := range []struct {
		c    impl.Cache
		want []impl.Slot
	}{
		{cache(1, 0), nil},
		{impl.Cache{Cap: 8, Clock: 5, Slots: []impl.Slot{}}, nil},
		{cache(2, 3, a), []impl.Slot{a}},
		{cache(4, 3, a, b, c), []impl.Slot{a, b, c}},
		// no room
		{cache(1, 3, a), nil},
		{cache(3, 3, a, b, c), []impl.Slot{a, c}},
		{cache(3, 3, b, a, c), []impl.Slot{a, c}},
		{cache(3, 3, c, a, b), []impl.Slot{c, a}},
		{cache(3, 9, c, b, a), []impl.Slot{c, a}},
		// the first one of several
		{cache(2, 3, a, a), []impl.Slot{a}},
		{cache(3, 9, slot(0, 1, 1, 4), slot(0, 2, 2, 4), slot(0, 3, 3, 4)), []impl.Slot{slot(0, 2, 2, 4), slot(0, 3, 3, 4)}},
		{cache(3, 9, slot(0, 1, 1, 5), slot(0, 2, 2, 4), slot(0, 3, 3, 4)), []impl.Slot{slot(0, 1, 1, 5), slot(0, 3, 3, 4)}},
		{cache(3, 9, slot(0, 1, 1, 4), slot(0, 2, 2, 5), slot(0, 3, 3, 4)), []impl.Slot{slot(0, 2, 2, 5), slot(0, 3, 3, 4)}},
		{cache(3, 9, slot(0, 1, 1, 4), slot(0, 2, 2, 4), slot(0, 3, 3, 5)), []impl.Slot{slot(0, 2, 2, 4), slot(0, 3, 3, 5)}},
		{cache(4, 9, slot(0, 1, 9, 7), slot(0, 2, 8, 2), slot(0, 3, 0, 7), slot(0, 4, -1, 2)), []impl.Slot{slot(0, 1, 9, 7), slot(0, 3, 0, 7), slot(0, 4, -1, 2)}},
		{cache(2, 0, slot(0, 1, 1, 0), slot(0, 2, 2, 0)), []impl.Slot{slot(0, 2, 2, 0)}},
		{cache(2, impl.MaxClock-1, slot(0, 1, 1, impl.MaxClock-1), slot(0, 2, 2, impl.MaxClock-2)), []impl.Slot{slot(0, 1, 1, impl.MaxClock-1)}},
	} {
		for _, b := range [][]impl.Span{spanBox(0, 5), spanBox(-impl.MaxFeat, impl.MaxFeat), {goneOnly}, exampleBox(), slices.Repeat([]impl.Span{anything}, 6)} {
			for _, score := range []int64{0, 1, -7, impl.MaxScore, minInt, maxInt} {
				want := cache(x.c.Cap, x.c.Clock+1, append(slices.Clone(x.want), impl.Slot{Box: b, Score: score, Used: x.c.Clock + 1})...)
				if got, ok := impl.CachePut(x.c, b, score); !ok || !sameCache(got, want) {
					t.Errorf("CachePut(%v, %v, %d) = %v, %v", x.c, b, score, got, ok)
				}
			}
		}
	}
}

// Each Slot of a full cache is once the oldest one.
func TestCachePutOfEachCap(t *testing.T) {
	for size := 1; size <= impl.MaxSlots; size++ {
		for oldest := range size {
			c := cache(int64(size), 20)
			for i := range size {
				c.Slots = append(c.Slots, slot(int64(i), int64(i), int64(i), int64(10+(i+7)%size)))
			}
			c.Slots[oldest].Used = 9
			want := append(slices.Delete(slices.Clone(c.Slots), oldest, oldest+1), slot(50, 60, 70, 21))
			if got, ok := impl.CachePut(c, spanBox(50, 60), 70); !ok || !sameCache(got, cache(int64(size), 21, want...)) {
				t.Errorf("CachePut(%v) = %v, %v", c, got, ok)
			}
		}
	}
}

func TestCachePutRejectsBoxes(t *testing.T) {
	for name, c := range goodCaches() {
		t.Run(name, func(t *testing.T) {
			for _, b := range badBoxes() {
				checkNoPut(t, c, b, 0)
				checkNoPut(t, c, b, 5)
			}
		})
	}
}

func TestCacheClock(t *testing.T) {
	for _, c := range []impl.Cache{cache(2, impl.MaxClock, slot(0, 5, 10, 1)), cache(1, impl.MaxClock, slot(0, 5, 10, impl.MaxClock))} {
		checkNoGet(t, c, []int64{3})
		checkNoGet(t, c, []int64{6})
		checkNoPut(t, c, spanBox(1, 2), 9)
		c.Clock--
		c.Slots[0].Used = 1
		got, score, ok := impl.CacheGet(c, []int64{3})
		if !ok || score != 10 || !sameCache(got, cache(c.Cap, impl.MaxClock, slot(0, 5, 10, impl.MaxClock))) {
			t.Errorf("CacheGet(%v) = %v, %d, %v", c, got, score, ok)
		}
		checkNoGet(t, got, []int64{3})
		got, ok = impl.CachePut(c, spanBox(1, 2), 9)
		if last := len(got.Slots) - 1; !ok || got.Clock != impl.MaxClock || got.Slots[last].Used != impl.MaxClock {
			t.Errorf("CachePut(%v) = %v, %v", c, got, ok)
		}
		checkNoPut(t, got, spanBox(1, 2), 9)
	}
	checkNoPut(t, cache(2, impl.MaxClock), spanBox(1, 2), 9)
}

// plainGet and plainPut take the rules in their own order, for valid caches.
func plainGet(c impl.Cache, d []int64) (impl.Cache, int64, bool) {
	next := copyCache(c)
	for i, s := range next.Slots {
		if c.Clock < impl.MaxClock && len(d) == len(s.Box) && plainHas(s.Box, d) {
			next.Clock++
			next.Slots[i].Used = next.Clock
			return next, s.Score, true
		}
	}
	return next, 0, false
}

func plainPut(c impl.Cache, b []impl.Span, score int64) (impl.Cache, bool) {
	next := copyCache(c)
	if c.Clock == impl.MaxClock {
		return next, false
	}
	next.Clock++
	next.Slots = append(next.Slots, impl.Slot{Box: b, Score: score, Used: next.Clock})
	for used := int64(0); int64(len(next.Slots)) > next.Cap; used++ {
		at := slices.IndexFunc(next.Slots, func(s impl.Slot) bool { return s.Used == used })
		if at >= 0 {
			next.Slots = slices.Delete(next.Slots, at, at+1)
		}
	}
	return next, true
}

// randomCache has a small Clock, so that many Slots have equal Used.
func randomCache(r *rand.Rand) impl.Cache {
	c := cache(1+r.Int63n(impl.MaxSlots), r.Int63n(6))
	count := int(c.Cap)
	if r.Intn(2) == 0 {
		count = r.Intn(count + 1)
	}
	for range count {
		b := smallBox(r, 1+r.Intn(2))
		if len(c.Slots) > 0 && r.Intn(5) == 0 {
			b = slices.Clone(c.Slots[r.Intn(len(c.Slots))].Box)
		}
		c.Slots = append(c.Slots, impl.Slot{Box: b, Score: r.Int63n(9) - 4, Used: r.Int63n(c.Clock + 1)})
	}
	return c
}

func TestStepsOfAnyCache(t *testing.T) {
	r := rand.New(rand.NewSource(71))
	found, removed := 0, 0
	for range 4000 {
		c := randomCache(r)
		for range 12 {
			if !impl.CacheOk(c) {
				t.Fatalf("CacheOk(%v) is false", c)
			}
			d, b, score := randomDoc(r, 1+r.Intn(3)), smallBox(r, 1+r.Intn(3)), r.Int63n(9)-4
			wantGet, wantScore, has := plainGet(c, d)
			got, gotScore, ok := impl.CacheGet(c, d)
			if ok != has || gotScore != wantScore || !sameCache(got, wantGet) {
				t.Fatalf("CacheGet(%v, %v) = %v, %d, %v", c, d, got, gotScore, ok)
			}
			wantPut, _ := plainPut(got, b, score)
			next, ok := impl.CachePut(got, b, score)
			if !ok || !sameCache(next, wantPut) {
				t.Fatalf("CachePut(%v, %v, %d) = %v, %v", got, b, score, next, ok)
			}
			if has {
				found++
			}
			if len(next.Slots) == len(c.Slots) {
				removed++
			}
			c = next
		}
	}
	if found < 3000 || removed < 20000 {
		t.Errorf("%d documents were found, %d Slots were removed", found, removed)
	}
}

func changeCache(r *rand.Rand, c *impl.Cache) {
	number := []int64{-1, 0, 1, c.Clock, c.Clock + 1, impl.MaxSlots, impl.MaxSlots + 1, impl.MaxClock, impl.MaxClock + 1, minInt, maxInt}[r.Intn(11)]
	switch kind := r.Intn(5); {
	case kind == 0:
		c.Cap = number
	case kind == 1:
		c.Clock = number
	case len(c.Slots) == 0 || kind == 2:
		c.Slots = append(c.Slots, slot(1, 2, 3, 0))
	case kind == 3:
		c.Slots[r.Intn(len(c.Slots))].Used = number
	default:
		b := badBoxes()
		c.Slots[r.Intn(len(c.Slots))].Box = b[r.Intn(len(b))]
	}
}

func plainCacheOk(c impl.Cache) bool {
	fine := c.Cap >= 1 && c.Cap <= 8 && c.Clock >= 0 && c.Clock <= 1000000000 && uint64(len(c.Slots)) <= uint64(c.Cap)
	for _, s := range c.Slots {
		fine = fine && s.Used >= 0 && s.Used <= c.Clock && impl.BoxOk(s.Box)
	}
	return fine
}

func TestCacheOkOfChangedCaches(t *testing.T) {
	r := rand.New(rand.NewSource(72))
	seen := map[bool]int{}
	for range 5000 {
		c := randomCache(r)
		for range 1 + r.Intn(2) {
			changeCache(r, &c)
		}
		want := plainCacheOk(c)
		if got := impl.CacheOk(c); got != want {
			t.Fatalf("CacheOk(%v) is %v", c, got)
		}
		if !want {
			checkNoGet(t, c, []int64{1})
			checkNoPut(t, c, spanBox(1, 2), 3)
		}
		seen[want]++
	}
	if seen[true] < 1000 || seen[false] < 1000 {
		t.Errorf("the caches are too much alike: %v", seen)
	}
}

// The Slots of a cache that was empty at first are those of which the last use
// is the least time ago.
func TestLeastRecentlyUsedIsRemoved(t *testing.T) {
	r := rand.New(rand.NewSource(73))
	for range 600 {
		size := 1 + r.Intn(impl.MaxSlots)
		c, recent, next := cache(int64(size), 0), []int64{}, int64(0)
		for step := range int64(40) {
			x := next
			if r.Intn(2) == 0 {
				c, _ = impl.CachePut(c, spanBox(x, x), -x)
				next++
			} else {
				x = r.Int63n(next + 1)
				at := slices.Index(recent, x)
				var score int64
				var ok bool
				c, score, ok = impl.CacheGet(c, []int64{x})
				if ok != (at >= 0) || ok && score != -x {
					t.Fatalf("step %d: CacheGet of %d = %d, %v; %v were used", step, x, score, ok, recent)
				}
				if !ok {
					continue
				}
				recent = slices.Delete(recent, at, at+1)
			}
			recent = append(recent, x)
			recent = recent[max(0, len(recent)-size):]
			var have []int64
			for _, s := range c.Slots {
				have = append(have, s.Box[0].Lo)
			}
			if want := slices.Sorted(slices.Values(recent)); !slices.Equal(have, want) {
				t.Fatalf("step %d: the Slots are %v instead of %v", step, have, want)
			}
		}
	}
}
