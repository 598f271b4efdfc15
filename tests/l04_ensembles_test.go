package tests

import (
	"math/rand"
	"slices"
	"strconv"
	"strings"
	"testing"

	"loop.example/g00762/impl"
)

const exampleEns = "2 -5 | s0:5:1:2:l l10 l-4 | l7"

func ens(t *testing.T, s string) impl.Ens {
	t.Helper()
	e, ok := impl.ReadEns(s)
	if !ok {
		t.Fatalf("ReadEns(%q) is false", s)
	}
	return e
}

// withTrees returns the text of an ensemble with a tree several times.
func withTrees(head string, tree string, times int) string {
	return head + strings.Repeat(" | "+tree, times)
}

func goodEnsTexts() []string {
	return []string{
		exampleEns, "1 0", "6 0", "3 -1", "1 1000000000", "1 -1000000000", "1 0 | l0", "1 0 | l0 | l0", "6 7 | " + fullTree,
		"6 0 | s5:1:1:2:l l1 l2", "1 0 | s0:1:1:2:r l1 l2 | l-1000000000", "6 0 | " + fullTree + " | " + fullTree,
		withTrees("2 0", "l1000000000", impl.MaxTrees), withTrees("6 0", fullTree, impl.MaxTrees),
	}
}

// badEns are not valid.
func badEns() map[string]impl.Ens {
	leaf := []impl.Node{{Value: 1}}
	split := []impl.Node{{Feat: 2, Cut: 1, Left: 1, Right: 2}, {}, {}}
	list := map[string]impl.Ens{
		"zero":                     {},
		"no features":              {Bias: 1, Trees: [][]impl.Node{leaf}},
		"negative features":        {Feats: -1},
		"too many features":        {Feats: impl.MaxFeats + 1},
		"least Feats":              {Feats: minInt},
		"greatest Feats":           {Feats: maxInt},
		"Bias too great":           {Feats: 1, Bias: impl.MaxValue + 1},
		"Bias too small":           {Feats: 1, Bias: -impl.MaxValue - 1},
		"greatest Bias":            {Feats: 1, Bias: maxInt, Trees: [][]impl.Node{leaf}},
		"least Bias":               {Feats: 1, Bias: minInt, Trees: [][]impl.Node{leaf}},
		"too many trees":           {Feats: 1, Trees: slices.Repeat([][]impl.Node{leaf}, impl.MaxTrees+1)},
		"very many trees":          {Feats: 1, Trees: slices.Repeat([][]impl.Node{leaf}, 1000)},
		"very many empty trees":    {Feats: 1, Trees: make([][]impl.Node, 1000)},
		"a feature too great":      {Feats: 2, Trees: [][]impl.Node{leaf, split}},
		"a feature too great, one": {Feats: 1, Trees: [][]impl.Node{split, leaf}},
		"an empty tree":            {Feats: 1, Trees: [][]impl.Node{{}}},
		"a nil tree":               {Feats: 3, Trees: [][]impl.Node{leaf, split, nil}},
	}
	for name, x := range badTrees() {
		list["first tree: "+name] = impl.Ens{Feats: impl.MaxFeats, Trees: [][]impl.Node{x, leaf}}
		list["last tree: "+name] = impl.Ens{Feats: impl.MaxFeats, Trees: [][]impl.Node{leaf, split, x}}
	}
	return list
}

func TestGoodEns(t *testing.T) {
	if impl.MaxTrees != 12 {
		t.Error("a constant is different")
	}
	for _, s := range goodEnsTexts() {
		e := ens(t, s)
		if !impl.EnsOk(e) {
			t.Errorf("EnsOk of %q is false", s)
		}
		if got := impl.EnsText(e); got != s {
			t.Errorf("EnsText of %q is %q", s, got)
		}
	}
	if !impl.EnsOk(impl.Ens{Feats: 1}) || !impl.EnsOk(impl.Ens{Feats: 6, Trees: [][]impl.Node{}}) {
		t.Error("an ensemble without trees is not valid")
	}
}

func TestBadEns(t *testing.T) {
	for name, e := range badEns() {
		if impl.EnsOk(e) {
			t.Errorf("%s: EnsOk is true", name)
		}
		if s := impl.EnsText(e); s != "" {
			t.Errorf("%s: EnsText is %q", name, s)
		}
		if lo, hi := impl.SpanOf(e); lo != 0 || hi != 0 {
			t.Errorf("%s: SpanOf is %d, %d", name, lo, hi)
		}
		for size := range impl.MaxFeats + 2 {
			checkNoScore(t, e, make([]int64, size))
		}
		good := impl.Ens{Feats: e.Feats, Bias: 1}
		checkNoJoin(t, e, good)
		checkNoJoin(t, good, e)
		checkNoJoin(t, e, e)
	}
}

func TestEnsOkFeatures(t *testing.T) {
	for feat := range int64(impl.MaxFeats) {
		trees := [][]impl.Node{{{Value: 1}}, {{Feat: feat, Left: 1, Right: 2}, {}, {}}}
		for feats := int64(-2); feats <= impl.MaxFeats+2; feats++ {
			want := feats > feat && feats <= impl.MaxFeats
			if got := impl.EnsOk(impl.Ens{Feats: feats, Trees: trees}); got != want {
				t.Errorf("EnsOk of feature %d with %d features is %v", feat, feats, got)
			}
		}
	}
}

func TestFullScoreExamples(t *testing.T) {
	gone := int64(impl.Missing)
	for _, c := range []struct {
		s    string
		d    []int64
		want int64
	}{
		{exampleEns, []int64{5, 0}, 12},
		{exampleEns, []int64{6, 0}, -2},
		{exampleEns, []int64{gone, gone}, 12},
		{"3 -1", []int64{1, 2, gone}, -1},
		{"1 0", []int64{gone}, 0},
		{withTrees("1 1000000000", "l1000000000", impl.MaxTrees), []int64{0}, 13000000000},
		{withTrees("1 -1000000000", "l-1000000000", impl.MaxTrees), []int64{0}, -13000000000},
		{withTrees("1 1", "s0:0:1:2:r l1 l100", impl.MaxTrees), []int64{gone}, 1201},
	} {
		if got, ok := impl.FullScore(ens(t, c.s), c.d); !ok || got != c.want {
			t.Errorf("FullScore(%q, %v) = %d, %v", c.s, c.d, got, ok)
		}
	}
}

func checkNoScore(t *testing.T, e impl.Ens, d []int64) {
	t.Helper()
	if n, ok := impl.FullScore(e, d); ok || n != 0 {
		t.Errorf("FullScore(%v, %v) = %d, %v", e, d, n, ok)
	}
}

func TestFullScoreRejectsDocs(t *testing.T) {
	for feats := range impl.MaxFeats {
		for _, tail := range []string{"", " | l7", " | s0:1:1:2:l l1 l2"} {
			e := ens(t, strconv.Itoa(feats+1)+" 5"+tail)
			for size := range impl.MaxFeats + 2 {
				if size != feats+1 {
					checkNoScore(t, e, make([]int64, size))
				}
			}
			for _, d := range badDocs() {
				checkNoScore(t, e, d)
			}
		}
	}
}

// plainScore adds the values of the leaves by the rule of the splits.
func plainScore(e impl.Ens, d []int64) int64 {
	score := e.Bias
	for _, x := range e.Trees {
		path := plainPath(x, d)
		score += x[path[len(path)-1]].Value
	}
	return score
}

func plainSpan(e impl.Ens) (int64, int64) {
	least, greatest := e.Bias, e.Bias
	for _, x := range e.Trees {
		lo, hi := int64(maxInt), int64(minInt)
		for _, n := range x {
			if n.Left == 0 {
				lo, hi = min(lo, n.Value), max(hi, n.Value)
			}
		}
		least += lo
		greatest += hi
	}
	return least, greatest
}

func TestScoresOfAnyOrder(t *testing.T) {
	r := rand.New(rand.NewSource(21))
	for range 1000 {
		size := 1 + r.Intn(impl.MaxFeats)
		e := randomEns(r, size)
		shuffled := copyEns(e)
		r.Shuffle(len(e.Trees), func(i, j int) {
			shuffled.Trees[i], shuffled.Trees[j] = shuffled.Trees[j], shuffled.Trees[i]
		})
		lo, hi := impl.SpanOf(e)
		if a, b := plainSpan(e); a != lo || b != hi {
			t.Fatalf("SpanOf(%v) = %d, %d", e, lo, hi)
		}
		if a, b := impl.SpanOf(shuffled); a != lo || b != hi {
			t.Fatalf("SpanOf(%v) = %d, %d, and %d, %d in another order", e, lo, hi, a, b)
		}
		for range 10 {
			d := randomDoc(r, size)
			want := plainScore(e, d)
			if got, ok := impl.FullScore(e, d); !ok || got != want || got < lo || got > hi {
				t.Fatalf("FullScore(%v, %v) = %d, %v; SpanOf %d, %d", e, d, got, ok, lo, hi)
			}
			if got, ok := impl.FullScore(shuffled, d); !ok || got != want {
				t.Fatalf("FullScore(%v, %v) = %d, %v, and %d in another order", shuffled, d, got, ok, want)
			}
		}
	}
}

func TestSpanOfExamples(t *testing.T) {
	for _, c := range []struct {
		s      string
		lo, hi int64
	}{
		{exampleEns, -2, 12},
		{"4 9", 9, 9},
		{"4 -9", -9, -9},
		{"1 0 | s0:5:1:2:l s0:9:3:4:l l0 l1 l-8", -8, 1},
		{withTrees("1 1000000000", "s0:0:1:2:l l1000000000 l-1000000000", impl.MaxTrees), -11000000000, 13000000000},
	} {
		if lo, hi := impl.SpanOf(ens(t, c.s)); lo != c.lo || hi != c.hi {
			t.Errorf("SpanOf %q is %d, %d", c.s, lo, hi)
		}
	}
}

func checkNoJoin(t *testing.T, a, b impl.Ens) {
	t.Helper()
	if j, ok := impl.EnsJoin(a, b); ok || !sameEns(j, impl.Ens{}) {
		t.Errorf("EnsJoin(%v, %v) = %v, %v", a, b, j, ok)
	}
}

func TestEnsJoins(t *testing.T) {
	for _, c := range []struct{ a, b, want string }{
		{exampleEns, exampleEns, "2 -10 | s0:5:1:2:l l10 l-4 | l7 | s0:5:1:2:l l10 l-4 | l7"},
		{"1 4 | l1", "1 -6 | l2 | l3", "1 -2 | l1 | l2 | l3"},
		{"1 4", "1 5", "1 9"},
		{"1 4 | l1", "1 5", "1 9 | l1"},
		{"1 4", "1 5 | l1", "1 9 | l1"},
		{"1 400000000", "1 600000000", "1 1000000000"},
		{"1 -400000000", "1 -600000000", "1 -1000000000"},
		{"1 1000000000", "1 -1000000000", "1 0"},
		{withTrees("3 1", "l5", 5), withTrees("3 2", "l7", 7), withTrees("3 3", "l5", 5) + withTrees("", "l7", 7)},
		{withTrees("3 1", "l5", 12), "3 2", withTrees("3 3", "l5", 12)},
	} {
		if j, ok := impl.EnsJoin(ens(t, c.a), ens(t, c.b)); !ok || !sameEns(j, ens(t, c.want)) {
			t.Errorf("EnsJoin(%q, %q) = %q, %v", c.a, c.b, impl.EnsText(j), ok)
		}
	}
}

func TestEnsJoinRejects(t *testing.T) {
	for _, c := range []struct{ a, b string }{
		{"1 0", "2 0"},
		{"1 0 | l1", "6 0 | l1"},
		{"1 1000000000", "1 1"},
		{"1 -1000000000", "1 -1"},
		{"1 500000001 | l1", "1 500000000 | l2"},
		{withTrees("3 1", "l5", 6), withTrees("3 2", "l7", 7)},
		{withTrees("3 1", "l5", 12), "3 2 | l1"},
		{withTrees("3 1", "l5", 12), withTrees("3 1", "l5", 12)},
	} {
		checkNoJoin(t, ens(t, c.a), ens(t, c.b))
		checkNoJoin(t, ens(t, c.b), ens(t, c.a))
	}
}

func TestEnsJoinAddsScores(t *testing.T) {
	r := rand.New(rand.NewSource(22))
	joined := 0
	for range 2000 {
		size := 1 + r.Intn(impl.MaxFeats)
		a, b := randomEns(r, size), randomEns(r, size)
		sum := a.Bias + b.Bias
		fits := len(a.Trees)+len(b.Trees) <= impl.MaxTrees && sum >= -impl.MaxValue && sum <= impl.MaxValue
		j, ok := impl.EnsJoin(a, b)
		want := impl.Ens{}
		if fits {
			want = impl.Ens{Feats: a.Feats, Bias: sum, Trees: slices.Concat(a.Trees, b.Trees)}
			joined++
		}
		if ok != fits || !sameEns(j, want) {
			t.Fatalf("EnsJoin(%v, %v) = %v, %v", a, b, j, ok)
		}
		d := randomDoc(r, size)
		if got, _ := impl.FullScore(j, d); ok && got != plainScore(a, d)+plainScore(b, d) {
			t.Fatalf("FullScore(%v, %v) = %d", j, d, got)
		}
	}
	if joined < 300 || joined > 1700 {
		t.Errorf("%d of 2000 pairs were joined", joined)
	}
}

func checkNoEns(t *testing.T, s string) {
	t.Helper()
	if e, ok := impl.ReadEns(s); ok || !sameEns(e, impl.Ens{}) {
		t.Errorf("ReadEns(%q) = %v, %v", s, e, ok)
	}
}

func TestReadEnsExamples(t *testing.T) {
	want := impl.Ens{Feats: 2, Bias: -5, Trees: [][]impl.Node{
		{{Cut: 5, Left: 1, Right: 2, Miss: true}, {Value: 10}, {Value: -4}}, {{Value: 7}},
	}}
	if e := ens(t, exampleEns); !sameEns(e, want) {
		t.Error(e)
	}
	checkNoEns(t, "1 0 |")
}

func TestReadEnsBadForms(t *testing.T) {
	for _, word := range badNumbers() {
		checkNoEns(t, word)
		checkNoEns(t, word+" 0")
		checkNoEns(t, "1 "+word)
		checkNoEns(t, word+" 0 | l1")
		checkNoEns(t, "1 "+word+" | l1")
		checkNoEns(t, "1 0 | l"+word)
		checkNoEns(t, "1 0 | l1 | l"+word)
	}
	for _, s := range []string{
		"", " ", "|", " | ", "1", "1 ", " 1 0", "1 0 ", "1  0", "1 0\n", "1,0", "1|0", "1 0 0", "1 0 l1", "1 0l1", "l1", "| l1", "1 | l1", "| 1 0", "1 0 0 | l1",
		"1 0 |", "1 0 | ", "1 0 |  ", "1 0|l1", "1 0| l1", "1 0 |l1", "1 0  | l1", "1 0 |  l1", "1 0 | l1 ", "1 0 | l1\n", "1 0 | l1 |", "1 0 | l1 | ", "1 0 | | l1",
		"1 0 | l1 | | l2", "1 0 | l1 |  | l2", "1 0 | l1 || l2", "1 0 || l1", "1 0 | l1  | l2", "1 0 | l1 |  l2", "1 0 | l1 l2", "1 0 | l1 | l2 l3", "1 0 | l1\t| l2", "1 0 / l1", "1 0 | 1 0",
		"0 0", "7 0", "-1 0", "1 1000000001", "1 -1000000001", "9223372036854775807 0", "1 9223372036854775807", "1 -9223372036854775808",
		"1 0 | s1:0:1:2:l l1 l2", "5 0 | l1 | s5:0:1:2:l l1 l2", "6 0 | s6:0:1:2:l l1 l2", "1 0 | s0:0:1:2:l l1", "1 0 | s0:0:0:0:r", "1 0 | l1000000001",
		withTrees("1 0", "l1", impl.MaxTrees+1), withTrees("1 0", "l1", impl.MaxTrees+2), withTrees("1 0", "l1", 1000), strings.Repeat(" | ", 1000),
		withTrees("1 0", "l1", impl.MaxTrees) + " |", withTrees("1 0", "l1", impl.MaxTrees) + " | ",
	} {
		checkNoEns(t, s)
	}
}

func TestEnsFromText(t *testing.T) {
	r := rand.New(rand.NewSource(23))
	for range 1500 {
		e := randomEns(r, 1+r.Intn(impl.MaxFeats))
		s := impl.EnsText(e)
		if s != plainEnsText(e) {
			t.Fatalf("EnsText(%v) is %q", e, s)
		}
		if got, ok := impl.ReadEns(s); !ok || !sameEns(got, e) {
			t.Fatalf("ReadEns(%q) = %v, %v", s, got, ok)
		}
	}
}

func plainEnsText(e impl.Ens) string {
	s := strconv.Itoa(int(e.Feats)) + " " + strconv.Itoa(int(e.Bias))
	for _, x := range e.Trees {
		s += " | " + plainText(x)
	}
	return s
}

func TestReadEnsOnlyReadsEnsTexts(t *testing.T) {
	r := rand.New(rand.NewSource(24))
	taken := 0
	for range 30000 {
		e := impl.Ens{Feats: 1 + r.Int63n(3), Bias: r.Int63n(30) - 10}
		for range r.Intn(4) {
			e.Trees = append(e.Trees, randomTree(r, r.Intn(3), int(e.Feats)))
		}
		s := mutated(r, plainEnsText(e), "0123ls:- |")
		got, ok := impl.ReadEns(s)
		want, fine := plainEns(s)
		if ok != fine || !sameEns(got, want) {
			t.Fatalf("ReadEns(%q) = %v, %v", s, got, ok)
		}
		if ok {
			taken++
		}
	}
	if taken < 1000 || taken > 29000 {
		t.Errorf("%d texts of 30000 were ensembles", taken)
	}
}

// plainEns reads the words of a text as far as it can, and accepts only the
// text that has the result.
func plainEns(s string) (impl.Ens, bool) {
	e := impl.Ens{}
	for i, word := range strings.Fields(s) {
		n, _ := strconv.Atoi(word)
		switch {
		case i == 0:
			e.Feats = int64(n)
		case i == 1:
			e.Bias = int64(n)
		case word == "|":
			e.Trees = append(e.Trees, nil)
		case len(e.Trees) > 0:
			e.Trees[len(e.Trees)-1] = append(e.Trees[len(e.Trees)-1], plainNode(word))
		}
	}
	fine := plainEnsText(e) == s && e.Feats >= 1 && e.Feats <= 6 && e.Bias >= -1000000000 && e.Bias <= 1000000000 && len(e.Trees) <= 12
	for _, x := range e.Trees {
		fine = fine && plainTree(x, e.Feats)
	}
	if !fine {
		return impl.Ens{}, false
	}
	return e, true
}

func plainNode(word string) impl.Node {
	var nums [4]int64
	parts := strings.Split(strings.TrimLeft(word, "ls"), ":")
	for i := range min(len(parts), 4) {
		n, _ := strconv.Atoi(parts[i])
		nums[i] = int64(n)
	}
	if strings.HasPrefix(word, "l") {
		return impl.Node{Value: nums[0]}
	}
	return impl.Node{Feat: nums[0], Cut: nums[1], Left: nums[2], Right: nums[3], Miss: strings.HasSuffix(word, ":l")}
}

// guardEns is an ensemble with spare capacity behind each of its lists.
func guardEns(e impl.Ens) (guarded impl.Ens, check func(t *testing.T)) {
	e.Trees, check = guardLists(e.Trees, impl.Node{Value: 77})
	return e, check
}

// spoil writes to all memory of an ensemble.
func spoil(e impl.Ens) {
	for i, x := range e.Trees {
		for j := range x {
			x[j] = impl.Node{Value: 99}
		}
		_ = append(x, impl.Node{Value: 99})
		e.Trees[i] = nil
	}
	_ = append(e.Trees, []impl.Node{{Value: 99}})
}

func TestEnsArgumentsStay(t *testing.T) {
	list := badEns()
	for _, s := range goodEnsTexts() {
		list[s] = ens(t, s)
	}
	for name, e := range list {
		a, checkA := guardEns(e)
		b, checkB := guardEns(impl.Ens{Feats: e.Feats, Bias: 1, Trees: [][]impl.Node{{{Value: 3}}}})
		d := make([]int64, min(6, max(0, e.Feats)))
		gd := guard(d, 77)
		impl.EnsOk(a)
		impl.SpanOf(a)
		impl.EnsText(a)
		impl.FullScore(a, gd.list)
		for _, pair := range [][2]impl.Ens{{a, b}, {b, a}, {a, a}} {
			j, _ := impl.EnsJoin(pair[0], pair[1])
			spoil(j)
		}
		t.Run(name, func(t *testing.T) {
			checkA(t)
			checkB(t)
			gd.check(t, d, 77)
		})
	}
}

func TestEnsResultsAreNew(t *testing.T) {
	a, b := ens(t, exampleEns), ens(t, exampleEns)
	spoil(a)
	if impl.EnsText(b) != exampleEns {
		t.Error("two results of ReadEns share memory")
	}
	j, ok := impl.EnsJoin(b, b)
	if !ok {
		t.Fatal(j)
	}
	for i, x := range j.Trees {
		before := copyEns(j)
		for k := range x {
			x[k].Value++
			before.Trees[i][k].Value++
		}
		_ = append(x, impl.Node{Value: 99}, impl.Node{Value: 99}, impl.Node{Value: 99})
		if !sameEns(j, before) || impl.EnsText(b) != exampleEns {
			t.Errorf("tree %d shares memory", i)
		}
	}
}
