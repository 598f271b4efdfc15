package tests

import (
	"math/rand"
	"slices"
	"testing"

	"loop.example/g00762/impl"
)

const stageEns = "1 100 | s0:5:1:2:l l10 l-4 | l7 | s0:2:1:2:l l1 l-1"

// plainState adds the values and the splits of the first trees of an order.
func plainState(e impl.Ens, p impl.Plan, d []int64, at int64) impl.State {
	s := impl.State{At: at}
	for _, i := range p.Order[:at] {
		path := plainPath(e.Trees[i], d)
		s.Sum += e.Trees[i][path[len(path)-1]].Value
		s.Cost += int64(len(path)) - 1
	}
	return s
}

// plainBounds uses the trees that remain, not the tables of the plan.
func plainBounds(e impl.Ens, p impl.Plan, s impl.State) (low, high int64) {
	low, high = e.Bias+s.Sum, e.Bias+s.Sum
	for _, i := range p.Order[s.At:] {
		lo, hi := plainRange(e.Trees[i])
		low += lo
		high += hi
	}
	return low, high
}

// plainClass evaluates each stage anew from the first tree on.
func plainClass(e impl.Ens, p impl.Plan, d []int64, threshold int64) (bool, impl.State) {
	for _, at := range append([]int64{0}, p.Ends...) {
		s := plainState(e, p, d, at)
		if low, high := plainBounds(e, p, s); threshold <= low || threshold > high {
			return plainScore(e, d) >= threshold, s
		}
	}
	return false, impl.State{At: -1}
}

// endsPlan is a plan with any order and ends.
func endsPlan(t *testing.T, e impl.Ens, order []int64, ends ...int64) impl.Plan {
	t.Helper()
	p := plainPlan(e, order, ends)
	if !impl.PlanOk(e, p) {
		t.Fatalf("PlanOk(%v, %v) is false", e, p)
	}
	return p
}

func TestStateExamples(t *testing.T) {
	type row struct{ at, sum, cost, low, high int64 }
	gone := int64(impl.Missing)
	for _, c := range []struct {
		s     string
		order []int64
		d     []int64
		rows  []row
	}{
		{stageEns, []int64{0, 1, 2}, []int64{3}, []row{{0, 0, 0, 102, 118}, {1, 10, 1, 116, 118}, {2, 17, 1, 116, 118}, {3, 16, 2, 116, 116}}},
		{stageEns, []int64{0, 1, 2}, []int64{9}, []row{{0, 0, 0, 102, 118}, {1, -4, 1, 102, 104}, {2, 3, 1, 102, 104}, {3, 2, 2, 102, 102}}},
		{stageEns, []int64{0, 1, 2}, []int64{gone}, []row{{0, 0, 0, 102, 118}, {1, 10, 1, 116, 118}, {2, 17, 1, 116, 118}, {3, 18, 2, 118, 118}}},
		{stageEns, []int64{0, 2, 1}, []int64{3}, []row{{0, 0, 0, 102, 118}, {1, 10, 1, 116, 118}, {2, 9, 2, 116, 116}, {3, 16, 2, 116, 116}}},
		{stageEns, []int64{1, 2, 0}, []int64{9}, []row{{0, 0, 0, 102, 118}, {1, 7, 0, 102, 118}, {2, 6, 1, 102, 116}, {3, 2, 2, 102, 102}}},
		{"2 -5", nil, []int64{1, gone}, []row{{0, 0, 0, -5, -5}}},
		{"1 9 | l5", []int64{0}, []int64{gone}, []row{{0, 0, 0, 14, 14}, {1, 5, 0, 14, 14}}},
		{"1 9 | l5 | l-6 | l0", []int64{2, 0, 1}, []int64{0}, []row{{0, 0, 0, 8, 8}, {1, 0, 0, 8, 8}, {2, 5, 0, 8, 8}, {3, -1, 0, 8, 8}}},
		{"1 1 | s0:5:1:2:r l2 l3 | s0:5:1:2:r l2 l3", []int64{1, 0}, []int64{gone}, []row{{0, 0, 0, 5, 7}, {1, 3, 1, 6, 7}, {2, 6, 2, 7, 7}}},
		// a longer path, and a leaf that no document reaches
		{"1 0 | " + chainTree + " | s0:5:1:2:l s0:9:3:4:l l1 l1 l9", []int64{0, 1}, []int64{6}, []row{{0, 0, 0, 2, 17}, {1, 7, 7, 8, 16}, {2, 8, 8, 8, 8}}},
		{"1 0 | " + chainTree + " | s0:5:1:2:l s0:9:3:4:l l1 l1 l9", []int64{1, 0}, []int64{0}, []row{{0, 0, 0, 2, 17}, {1, 1, 2, 2, 9}, {2, 2, 3, 2, 2}}},
	} {
		e := ens(t, c.s)
		p := endsPlan(t, e, c.order, plainEnds(int64(len(e.Trees)), 2)...)
		for _, w := range c.rows {
			s, ok := impl.StateTo(e, p, c.d, w.at)
			if !ok || s != (impl.State{At: w.at, Sum: w.sum, Cost: w.cost}) {
				t.Errorf("StateTo(%q, %v, %v, %d) = %v, %v", c.s, c.order, c.d, w.at, s, ok)
			}
			if low, high := impl.BoundsOf(e, p, s); low != w.low || high != w.high {
				t.Errorf("BoundsOf(%q, %v, %v) = %d, %d", c.s, c.order, s, low, high)
			}
		}
		if int64(len(c.rows)) != int64(len(e.Trees))+1 {
			t.Errorf("%q has other states", c.s)
		}
	}
}

// The bounds of a state count whether or not a document has that state.
func TestBoundsOfAnyState(t *testing.T) {
	if impl.MaxScore != 100000000000 {
		t.Error("a constant is different")
	}
	e := ens(t, stageEns)
	p := plan(t, e, 1, 1)
	lows, highs := []int64{102, 106, 99, 100}, []int64{118, 108, 101, 100}
	for at := range int64(4) {
		for _, sum := range []int64{0, 1, -1, 12345, impl.MaxScore, impl.MaxScore - 1, -impl.MaxScore, -impl.MaxScore + 1} {
			for _, cost := range []int64{0, 1, -1, 7, minInt, maxInt} {
				s := impl.State{At: at, Sum: sum, Cost: cost}
				if low, high := impl.BoundsOf(e, p, s); low != lows[at]+sum || high != highs[at]+sum {
					t.Errorf("BoundsOf(%v) = %d, %d", s, low, high)
				}
			}
		}
	}
	for _, sign := range []int64{1, -1} {
		e := impl.Ens{Feats: 1, Bias: sign * impl.MaxValue, Trees: slices.Repeat([][]impl.Node{{{Value: sign * impl.MaxValue}}}, impl.MaxTrees)}
		p := plan(t, e, 2, 5)
		for at := range int64(impl.MaxTrees + 1) {
			want := sign * (impl.MaxScore + impl.MaxValue*(impl.MaxTrees-at+1))
			if low, high := impl.BoundsOf(e, p, impl.State{At: at, Sum: sign * impl.MaxScore}); low != want || high != want {
				t.Errorf("BoundsOf at %d = %d, %d", at, low, high)
			}
		}
	}
	for _, bias := range []int64{0, 9, -9} {
		e := impl.Ens{Feats: 3, Bias: bias}
		if low, high := impl.BoundsOf(e, plan(t, e, 3, 4), impl.State{Sum: 5}); low != bias+5 || high != bias+5 {
			t.Errorf("BoundsOf without trees = %d, %d", low, high)
		}
	}
}

func TestClassifyExamples(t *testing.T) {
	for _, c := range []struct {
		s         string
		order     []int64
		ends      []int64
		x         int64
		threshold int64
		is        bool
		want      impl.State
	}{
		{stageEns, []int64{0, 1, 2}, []int64{1, 2, 3}, 3, 102, true, impl.State{}},
		{stageEns, []int64{0, 1, 2}, []int64{1, 2, 3}, 3, 103, true, impl.State{At: 1, Sum: 10, Cost: 1}},
		{stageEns, []int64{0, 1, 2}, []int64{1, 2, 3}, 3, 115, true, impl.State{At: 1, Sum: 10, Cost: 1}},
		{stageEns, []int64{0, 1, 2}, []int64{1, 2, 3}, 3, 116, true, impl.State{At: 1, Sum: 10, Cost: 1}},
		{stageEns, []int64{0, 1, 2}, []int64{1, 2, 3}, 3, 117, false, impl.State{At: 3, Sum: 16, Cost: 2}},
		{stageEns, []int64{0, 1, 2}, []int64{1, 2, 3}, 3, 118, false, impl.State{At: 3, Sum: 16, Cost: 2}},
		{stageEns, []int64{0, 1, 2}, []int64{1, 2, 3}, 3, 119, false, impl.State{}},
		{stageEns, []int64{0, 1, 2}, []int64{1, 2, 3}, 1, 118, true, impl.State{At: 3, Sum: 18, Cost: 2}},
		{stageEns, []int64{0, 1, 2}, []int64{1, 2, 3}, 9, 104, false, impl.State{At: 3, Sum: 2, Cost: 2}},
		{stageEns, []int64{0, 1, 2}, []int64{1, 2, 3}, 9, 105, false, impl.State{At: 1, Sum: -4, Cost: 1}},
		{stageEns, []int64{0, 1, 2}, []int64{1, 2, 3}, 9, 102, true, impl.State{}},
		{stageEns, []int64{0, 1, 2}, []int64{1, 2, 3}, 9, 103, false, impl.State{At: 3, Sum: 2, Cost: 2}},
		{stageEns, []int64{0, 1, 2}, []int64{1, 2, 3}, impl.Missing, 117, true, impl.State{At: 3, Sum: 18, Cost: 2}},
		{stageEns, []int64{0, 2, 1}, []int64{1, 2, 3}, 3, 117, false, impl.State{At: 2, Sum: 9, Cost: 2}},
		{stageEns, []int64{1, 2, 0}, []int64{1, 2, 3}, 3, 103, true, impl.State{At: 3, Sum: 16, Cost: 2}},
		{stageEns, []int64{1, 2, 0}, []int64{1, 2, 3}, 3, 117, false, impl.State{At: 2, Sum: 6, Cost: 1}},
		// only the ends count, also where an earlier state would do
		{stageEns, []int64{0, 1, 2}, []int64{2, 3}, 3, 103, true, impl.State{At: 2, Sum: 17, Cost: 1}},
		{stageEns, []int64{0, 1, 2}, []int64{1, 3}, 3, 117, false, impl.State{At: 3, Sum: 16, Cost: 2}},
		{stageEns, []int64{0, 1, 2}, []int64{3}, 3, 103, true, impl.State{At: 3, Sum: 16, Cost: 2}},
		{stageEns, []int64{0, 2, 1}, []int64{3}, 3, 117, false, impl.State{At: 3, Sum: 16, Cost: 2}},
		{stageEns, []int64{0, 2, 1}, []int64{3}, 3, 119, false, impl.State{}},
		{stageEns, []int64{0, 2, 1}, []int64{3}, 3, 102, true, impl.State{}},
		{stageEns, []int64{0, 1, 2}, []int64{3}, 3, -impl.MaxScore, true, impl.State{}},
		{stageEns, []int64{0, 1, 2}, []int64{3}, 3, impl.MaxScore, false, impl.State{}},
		{"1 9", nil, nil, 0, 8, true, impl.State{}},
		{"1 9", nil, nil, 0, 9, true, impl.State{}},
		{"1 9", nil, nil, 0, 10, false, impl.State{}},
		{"1 9", nil, nil, 0, -impl.MaxScore, true, impl.State{}},
		{"1 9", nil, nil, 0, impl.MaxScore, false, impl.State{}},
		// leaves alone leave nothing open
		{"1 9 | l5 | l-6", []int64{1, 0}, []int64{1, 2}, 0, 8, true, impl.State{}},
		{"1 9 | l5 | l-6", []int64{1, 0}, []int64{1, 2}, 0, 9, false, impl.State{}},
		{"1 0 | s0:5:1:2:l l-1 l1 | s0:5:1:2:l l-1 l1", []int64{1, 0}, []int64{1, 2}, 3, 0, false, impl.State{At: 2, Sum: -2, Cost: 2}},
		{"1 0 | s0:5:1:2:l l-1 l1 | s0:5:1:2:l l-1 l1", []int64{1, 0}, []int64{1, 2}, 6, 0, true, impl.State{At: 1, Sum: 1, Cost: 1}},
	} {
		e := ens(t, c.s)
		is, s, ok := impl.Classify(e, endsPlan(t, e, c.order, c.ends...), []int64{c.x}, c.threshold)
		if !ok || is != c.is || s != c.want {
			t.Errorf("Classify(%q, %v %v, %d, %d) = %v, %v, %v", c.s, c.order, c.ends, c.x, c.threshold, is, s, ok)
		}
	}
}

// checkStates returns the score and all bounds of a document.
func checkStates(t *testing.T, e impl.Ens, p impl.Plan, d []int64) []int64 {
	t.Helper()
	score := plainScore(e, d)
	marks := []int64{score}
	low, high := int64(minInt), int64(maxInt)
	for at := range int64(len(e.Trees) + 1) {
		s, ok := impl.StateTo(e, p, d, at)
		if !ok || s != plainState(e, p, d, at) {
			t.Fatalf("StateTo(%v, %v, %v, %d) = %v, %v", e, p, d, at, s, ok)
		}
		a, b := impl.BoundsOf(e, p, s)
		if wantA, wantB := plainBounds(e, p, s); a != wantA || b != wantB {
			t.Fatalf("BoundsOf(%v, %v, %v) = %d, %d", e, p, s, a, b)
		}
		if a < low || b > high || score < a || score > b {
			t.Fatalf("BoundsOf(%v, %v, %v) = %d, %d after %d, %d; the score is %d", e, p, s, a, b, low, high, score)
		}
		low, high = a, b
		marks = append(marks, a, b)
	}
	if low != score || high != score {
		t.Fatalf("the last bounds of %v, %v, %v are %d, %d; the score is %d", e, p, d, low, high, score)
	}
	return marks
}

// checkClass also checks that the stages before leave the answer open.
func checkClass(t *testing.T, e impl.Ens, p impl.Plan, d []int64, threshold int64) impl.State {
	t.Helper()
	is, s, ok := impl.Classify(e, p, d, threshold)
	wantIs, want := plainClass(e, p, d, threshold)
	if !ok || is != wantIs || s != want {
		t.Fatalf("Classify(%v, %v, %v, %d) = %v, %v, %v instead of %v, %v", e, p, d, threshold, is, s, ok, wantIs, want)
	}
	for _, at := range append([]int64{0}, p.Ends...) {
		if at >= s.At {
			break
		}
		before, _ := impl.StateTo(e, p, d, at)
		if low, high := impl.BoundsOf(e, p, before); threshold <= low || threshold > high {
			t.Fatalf("Classify(%v, %v, %v, %d) goes beyond %v", e, p, d, threshold, before)
		}
	}
	return s
}

// thresholds are those beside which an answer may change, and the limits.
func thresholds(marks []int64) []int64 {
	list := []int64{0, impl.MaxScore, -impl.MaxScore}
	for _, mark := range marks {
		list = append(list, mark-1, mark, mark+1)
	}
	slices.Sort(list)
	return slices.Compact(list)
}

func TestStagesOfAnyPlan(t *testing.T) {
	r := rand.New(rand.NewSource(51))
	stops := map[string]int{}
	for i := range 100 {
		e := planningEns(r, r.Intn(impl.MaxTrees+1))
		if i%2 == 0 {
			e = randomEns(r, 1+r.Intn(impl.MaxFeats))
		}
		plans := []impl.Plan{randomPlan(r, e), plan(t, e, 1+r.Int63n(3), 1+r.Int63n(impl.MaxTrees)), plan(t, e, 2, 1), plan(t, e, 3, impl.MaxTrees)}
		for range 3 {
			d := randomDoc(r, int(e.Feats))
			for _, p := range plans {
				for _, threshold := range thresholds(checkStates(t, e, p, d)) {
					switch s := checkClass(t, e, p, d, threshold); s.At {
					case 0:
						stops["first"]++
					case int64(len(e.Trees)):
						stops["last"]++
					default:
						stops["between"]++
					}
				}
			}
		}
	}
	if stops["first"] < 1000 || stops["between"] < 1000 || stops["last"] < 1000 {
		t.Errorf("the documents are too much alike: %v", stops)
	}
}

// The greatest scores are within the thresholds that are accepted.
func TestGreatestScores(t *testing.T) {
	for _, sign := range []int64{1, -1} {
		e := impl.Ens{Feats: 1, Bias: sign * impl.MaxValue}
		for range impl.MaxTrees {
			e.Trees = append(e.Trees, []impl.Node{{Left: 1, Right: 2}, {Value: sign * impl.MaxValue}, {Value: -sign * impl.MaxValue}})
		}
		for _, p := range []impl.Plan{plan(t, e, 1, 1), plan(t, e, 2, 12), plan(t, e, 3, 5)} {
			for _, d := range [][]int64{{0}, {1}, {impl.Missing}} {
				for _, threshold := range thresholds(checkStates(t, e, p, d)) {
					checkClass(t, e, p, d, threshold)
				}
			}
		}
	}
}

func checkNoState(t *testing.T, e impl.Ens, p impl.Plan, d []int64, at int64) {
	t.Helper()
	if s, ok := impl.StateTo(e, p, d, at); ok || s != (impl.State{}) {
		t.Errorf("StateTo(%v, %v, %v, %d) = %v, %v", e, p, d, at, s, ok)
	}
}

func checkNoBounds(t *testing.T, e impl.Ens, p impl.Plan, s impl.State) {
	t.Helper()
	if low, high := impl.BoundsOf(e, p, s); low != 0 || high != 0 {
		t.Errorf("BoundsOf(%v, %v, %v) = %d, %d", e, p, s, low, high)
	}
}

func checkNoClass(t *testing.T, e impl.Ens, p impl.Plan, d []int64, threshold int64) {
	t.Helper()
	if is, s, ok := impl.Classify(e, p, d, threshold); is || ok || s != (impl.State{}) {
		t.Errorf("Classify(%v, %v, %v, %d) = %v, %v, %v", e, p, d, threshold, is, s, ok)
	}
}

// checkNoStages is for what no state and no threshold can make right.
func checkNoStages(t *testing.T, e impl.Ens, p impl.Plan, d []int64) {
	t.Helper()
	for at := int64(-1); at <= int64(min(len(e.Trees), 20))+1; at++ {
		checkNoState(t, e, p, d, at)
	}
	for _, threshold := range []int64{0, 1, -impl.MaxScore, impl.MaxScore, minInt, maxInt} {
		checkNoClass(t, e, p, d, threshold)
	}
}

func TestStagesRejectPositions(t *testing.T) {
	for _, s := range []string{stageEns, "1 9", "1 9 | l5", withTrees("1 9", "s0:5:1:2:l l10 l-4", impl.MaxTrees)} {
		e := ens(t, s)
		n := int64(len(e.Trees))
		for _, p := range []impl.Plan{plan(t, e, 1, 1), plan(t, e, 2, 12)} {
			for _, at := range []int64{-1, n + 1, n + 2, -n - 1, 100, 1 << 32, minInt, maxInt} {
				checkNoState(t, e, p, []int64{3}, at)
				for _, sum := range []int64{0, 5, impl.MaxScore, -impl.MaxScore, maxInt} {
					checkNoBounds(t, e, p, impl.State{At: at, Sum: sum, Cost: 1})
				}
			}
			for at := range n + 1 {
				for _, sum := range []int64{impl.MaxScore + 1, -impl.MaxScore - 1, 1 << 62, minInt, maxInt} {
					checkNoBounds(t, e, p, impl.State{At: at, Sum: sum})
				}
			}
			for _, threshold := range []int64{impl.MaxScore + 1, -impl.MaxScore - 1, 1 << 62, -1 << 62, minInt, maxInt} {
				checkNoClass(t, e, p, []int64{3}, threshold)
			}
		}
	}
}

func TestStagesRejectDocs(t *testing.T) {
	for feats := range impl.MaxFeats {
		for _, tail := range []string{"", " | l7", " | s0:1:1:2:l l1 l2"} {
			e := ens(t, string(rune('1'+feats))+" 5"+tail)
			for _, d := range badDocsOf(feats + 1) {
				checkNoStages(t, e, plan(t, e, 1, 1), d)
			}
		}
	}
}

// wrongPlans are not valid for planEns, but some of them for another ensemble.
func wrongPlans(t *testing.T) map[string]impl.Plan {
	plans := badPlans(t)
	for _, s := range []string{"1 0", "1 0 | l7", planEns + " | l0", "1 0 | l7 | s0:5:1:2:l l10 l-5 | s0:5:1:4:l s0:1:2:3:l l1 l2 l3 | l0"} {
		plans["of "+s] = plan(t, ens(t, s), 2, 3)
	}
	return plans
}

func TestStagesRejectPlans(t *testing.T) {
	e := ens(t, planEns)
	for _, p := range wrongPlans(t) {
		checkNoStages(t, e, p, []int64{3})
		for at := int64(-1); at <= 5; at++ {
			checkNoBounds(t, e, p, impl.State{At: at, Sum: 5})
		}
	}
	empty := ens(t, "1 9")
	for _, p := range []impl.Plan{{}, {Mins: []int64{0}}, {Maxs: []int64{0}}, plan(t, e, 1, 1)} {
		checkNoStages(t, empty, p, []int64{3})
		checkNoBounds(t, empty, p, impl.State{})
	}
}

func TestStagesRejectEns(t *testing.T) {
	for _, e := range badEns() {
		for _, p := range plansForBad(e) {
			for size := range impl.MaxFeats + 1 {
				checkNoStages(t, e, p, make([]int64, size))
			}
			checkNoBounds(t, e, p, impl.State{})
			checkNoBounds(t, e, p, impl.State{At: int64(len(e.Trees)), Sum: 1})
		}
	}
}

func TestStageArgumentsStay(t *testing.T) {
	list := badEns()
	for _, s := range append(flatTexts(), planEns, stageEns) {
		list[s] = ens(t, s)
	}
	for name, e := range list {
		for _, p := range append(plansForBad(e), plainPlan(impl.Ens{}, nil, []int64{1})) {
			g, checkEns := guardEns(e)
			q, checkPlan := guardPlan(p)
			d := make([]int64, max(0, min(6, e.Feats)))
			gd := guard(d, 77)
			for at := range int64(14) {
				impl.StateTo(g, q, gd.list, at)
				impl.BoundsOf(g, q, impl.State{At: at})
				impl.Classify(g, q, gd.list, at)
			}
			t.Run(name, func(t *testing.T) {
				checkEns(t)
				checkPlan(t)
				gd.check(t, d, 77)
			})
		}
	}
}

// Neither earlier calls nor where an argument lies in memory may count.
func TestEqualStages(t *testing.T) {
	r := rand.New(rand.NewSource(52))
	for range 200 {
		e := planningEns(r, 1+r.Intn(impl.MaxTrees))
		p, d := randomPlan(r, e), randomDoc(r, 2)
		at, threshold := r.Int63n(int64(len(e.Trees)+1)), r.Int63n(9)-4
		s, ok := impl.StateTo(e, p, d, at)
		low, high := impl.BoundsOf(e, p, s)
		is, stop, fine := impl.Classify(e, p, d, threshold)
		other := randomEns(r, 2)
		impl.Classify(other, randomPlan(r, other), randomDoc(r, 2), threshold)
		e2, p2, d2 := copyEns(e), copyPlan(p), slices.Clone(d)
		s2, ok2 := impl.StateTo(e2, p2, d2, at)
		low2, high2 := impl.BoundsOf(e2, p2, s2)
		is2, stop2, fine2 := impl.Classify(e2, p2, d2, threshold)
		if s != s2 || ok != ok2 || low != low2 || high != high2 || is != is2 || stop != stop2 || fine != fine2 {
			t.Fatalf("%v, %v, %v, %d, %d: equal calls have different results", e, p, d, at, threshold)
		}
	}
}
