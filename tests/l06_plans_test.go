package tests

import (
	"math/rand"
	"slices"
	"strconv"
	"testing"

	"loop.example/g00762/impl"
)

const planEns = "1 0 | l7 | s0:5:1:2:l l10 l-4 | s0:5:1:4:l s0:1:2:3:l l1 l2 l3 | l0"

// planLists are the lists of a plan.
func planLists(p *impl.Plan) map[string]*[]int64 {
	return map[string]*[]int64{"Order": &p.Order, "Ends": &p.Ends, "Mins": &p.Mins, "Maxs": &p.Maxs}
}

func copyPlan(p impl.Plan) impl.Plan {
	for _, list := range planLists(&p) {
		*list = slices.Clone(*list)
	}
	return p
}

func samePlan(a, b impl.Plan) bool {
	return slices.Equal(a.Order, b.Order) && slices.Equal(a.Ends, b.Ends) && slices.Equal(a.Mins, b.Mins) && slices.Equal(a.Maxs, b.Maxs)
}

func plan(t *testing.T, e impl.Ens, policy, stage int64) impl.Plan {
	t.Helper()
	p, ok := impl.PlanOf(e, policy, stage)
	if !ok {
		t.Fatalf("PlanOf(%v, %d, %d) is false", e, policy, stage)
	}
	return p
}

// plainRange looks at the leaves, and plainDepth counts from the first node on.
func plainRange(x []impl.Node) (lo, hi int64) {
	lo, hi = maxInt, minInt
	for _, n := range x {
		if n.Left == 0 {
			lo, hi = min(lo, n.Value), max(hi, n.Value)
		}
	}
	return lo, hi
}

func plainDepth(x []impl.Node) int64 {
	depths, deepest := make([]int64, len(x)), int64(0)
	for i, n := range x {
		deepest = max(deepest, depths[i])
		if n.Left != 0 {
			depths[n.Left], depths[n.Right] = depths[i]+1, depths[i]+1
		}
	}
	return deepest
}

// plainOrder puts each tree behind those before which it need not be.
func plainOrder(e impl.Ens, policy int64) []int64 {
	before := func(x, y []impl.Node) bool {
		lo, hi := plainRange(x)
		lo2, hi2 := plainRange(y)
		return policy == 2 && hi-lo > hi2-lo2 || policy == 3 && plainDepth(x) < plainDepth(y)
	}
	var order []int64
	for i, x := range e.Trees {
		at := len(order)
		for at > 0 && before(x, e.Trees[order[at-1]]) {
			at--
		}
		order = slices.Insert(order, at, int64(i))
	}
	return order
}

// plainPlan returns the plan with an order and ends, whose sums are each computed alone.
func plainPlan(e impl.Ens, order, ends []int64) impl.Plan {
	p := impl.Plan{Order: order, Ends: ends}
	for i := range len(order) + 1 {
		least, greatest := int64(0), int64(0)
		for _, at := range order[i:] {
			lo, hi := plainRange(e.Trees[at])
			least += lo
			greatest += hi
		}
		p.Mins, p.Maxs = append(p.Mins, least), append(p.Maxs, greatest)
	}
	return p
}

func plainEnds(n, stage int64) []int64 {
	var ends []int64
	for end := int64(1); end <= n; end++ {
		if end%stage == 0 || end == n {
			ends = append(ends, end)
		}
	}
	return ends
}

// plainPlanOk checks the rules of a plan for a valid ensemble one after the other.
func plainPlanOk(e impl.Ens, p impl.Plan) bool {
	n := len(e.Trees)
	for i := range int64(n) {
		if !slices.Contains(p.Order, i) {
			return false
		}
	}
	if len(p.Order) != n || (n == 0) != (len(p.Ends) == 0) {
		return false
	}
	for i, end := range p.Ends {
		if end < 1 || end > int64(n) || i > 0 && p.Ends[i-1] >= end {
			return false
		}
	}
	if n > 0 && !slices.Contains(p.Ends, int64(n)) {
		return false
	}
	return samePlan(p, plainPlan(e, p.Order, p.Ends))
}

func TestOrderExamples(t *testing.T) {
	for _, c := range []struct {
		s      string
		policy int64
		want   []int64
	}{
		{planEns, 1, []int64{0, 1, 2, 3}},
		{planEns, 2, []int64{1, 2, 0, 3}},
		{planEns, 3, []int64{0, 3, 1, 2}},
		{"1 5", 1, nil},
		{"1 5", 2, nil},
		{"1 5", 3, nil},
		{"1 5 | l9", 2, []int64{0}},
		{"1 0 | l9 | l-9 | l9 | l1000000000", 2, []int64{0, 1, 2, 3}},
		{"1 0 | l9 | l-9 | l9 | l1000000000", 3, []int64{0, 1, 2, 3}},
		{withTrees("2 0", exampleTree, impl.MaxTrees), 1, []int64{0, 1, 2, 3, 4, 5, 6, 7, 8, 9, 10, 11}},
		{withTrees("2 0", exampleTree, impl.MaxTrees), 2, []int64{0, 1, 2, 3, 4, 5, 6, 7, 8, 9, 10, 11}},
		{withTrees("2 0", exampleTree, impl.MaxTrees), 3, []int64{0, 1, 2, 3, 4, 5, 6, 7, 8, 9, 10, 11}},
		// equal trees that are not beside each other
		{"1 0 | l1 | s0:5:1:2:l l1 l2 | l1 | s0:5:1:2:l l1 l2 | l1", 1, []int64{0, 1, 2, 3, 4}},
		{"1 0 | l1 | s0:5:1:2:l l1 l2 | l1 | s0:5:1:2:l l1 l2 | l1", 2, []int64{1, 3, 0, 2, 4}},
		{"1 0 | l1 | s0:5:1:2:l l1 l2 | l1 | s0:5:1:2:l l1 l2 | l1", 3, []int64{0, 2, 4, 1, 3}},
		// equal differences of other ranges and depths
		{"1 0 | s0:5:1:2:l l-9 l-5 | s0:5:1:4:l s0:1:2:3:l l1 l2 l5 | s0:5:1:2:l l5 l4 | s0:5:1:2:l l8 l4", 2, []int64{0, 1, 3, 2}},
		{"1 0 | s0:5:1:4:l s0:1:2:3:l l1 l2 l5 | s0:5:1:2:l l-9 l-5 | s0:5:1:2:l l5 l5 | s0:1:1:2:r l3 s0:2:3:4:r l6 l7", 3, []int64{1, 2, 0, 3}},
		// the greatest differences, and a split without one
		{"1 0 | s0:5:1:2:l l3 l3 | s0:5:1:2:l l0 l1000000000 | s0:5:1:2:l l-1000000000 l1000000000 | l4 | s0:5:1:2:l l1000000000 l-999999999", 2, []int64{2, 4, 1, 0, 3}},
		// the depth is not the number of splits: three of them here, but a depth of two
		{"1 0 | s0:5:1:2:l s0:1:3:4:l s0:9:5:6:l l1 l2 l3 l4 | " + chainOne + " | s0:1:1:2:l l1 s0:2:3:4:l l2 l3", 3, []int64{0, 2, 1}},
		{"6 0 | " + chainTree + " | " + fullTree + " | " + chainOne, 3, []int64{1, 2, 0}},
		// a leaf that no document reaches counts
		{"1 0 | s0:5:1:2:l l0 l3 | s0:5:1:2:l s0:9:3:4:l l1 l1 l9", 2, []int64{1, 0}},
	} {
		if got := impl.OrderOf(ens(t, c.s), c.policy); !slices.Equal(got, c.want) {
			t.Errorf("OrderOf(%q, %d) = %v", c.s, c.policy, got)
		}
	}
}

// chainOne has three splits on one path.
const chainOne = "s0:0:1:2:l l1 s0:1:3:4:l l2 s0:2:5:6:l l3 l4"

func TestPlanExamples(t *testing.T) {
	for _, c := range []struct {
		s             string
		policy, stage int64
		want          impl.Plan
	}{
		{planEns, 2, 3, impl.Plan{Order: []int64{1, 2, 0, 3}, Ends: []int64{3, 4}, Mins: []int64{4, 8, 7, 0, 0}, Maxs: []int64{20, 10, 7, 0, 0}}},
		{planEns, 1, 2, impl.Plan{Order: []int64{0, 1, 2, 3}, Ends: []int64{2, 4}, Mins: []int64{4, -3, 1, 0, 0}, Maxs: []int64{20, 13, 3, 0, 0}}},
		{planEns, 3, 1, impl.Plan{Order: []int64{0, 3, 1, 2}, Ends: []int64{1, 2, 3, 4}, Mins: []int64{4, -3, -3, 1, 0}, Maxs: []int64{20, 13, 13, 3, 0}}},
		{planEns, 3, 4, impl.Plan{Order: []int64{0, 3, 1, 2}, Ends: []int64{4}, Mins: []int64{4, -3, -3, 1, 0}, Maxs: []int64{20, 13, 13, 3, 0}}},
		{planEns, 1, 12, impl.Plan{Order: []int64{0, 1, 2, 3}, Ends: []int64{4}, Mins: []int64{4, -3, 1, 0, 0}, Maxs: []int64{20, 13, 3, 0, 0}}},
		{"1 9", 1, 1, impl.Plan{Mins: []int64{0}, Maxs: []int64{0}}},
		{"1 9", 2, 12, impl.Plan{Mins: []int64{0}, Maxs: []int64{0}}},
		{"1 9", 3, 5, impl.Plan{Mins: []int64{0}, Maxs: []int64{0}}},
		{"1 9 | l5", 3, 1, impl.Plan{Order: []int64{0}, Ends: []int64{1}, Mins: []int64{5, 0}, Maxs: []int64{5, 0}}},
		{"1 9 | l5", 2, 2, impl.Plan{Order: []int64{0}, Ends: []int64{1}, Mins: []int64{5, 0}, Maxs: []int64{5, 0}}},
		{"1 9 | l5 | l5 | l5", 2, 2, impl.Plan{Order: []int64{0, 1, 2}, Ends: []int64{2, 3}, Mins: []int64{15, 10, 5, 0}, Maxs: []int64{15, 10, 5, 0}}},
		{"1 1000000000 | l1000000000 | s0:5:1:2:l l1000000000 l-1000000000", 2, 1, impl.Plan{
			Order: []int64{1, 0}, Ends: []int64{1, 2}, Mins: []int64{0, 1000000000, 0}, Maxs: []int64{2000000000, 1000000000, 0},
		}},
	} {
		e := ens(t, c.s)
		if got := plan(t, e, c.policy, c.stage); !samePlan(got, c.want) {
			t.Errorf("PlanOf(%q, %d, %d) = %v", c.s, c.policy, c.stage, got)
		}
		if !impl.PlanOk(e, c.want) {
			t.Errorf("PlanOk(%q, %v) is false", c.s, c.want)
		}
	}
}

func TestPlanSums(t *testing.T) {
	for _, value := range []int64{impl.MaxValue, -impl.MaxValue} {
		p := plan(t, ens(t, withTrees("1 1000000000", "l"+strconv.FormatInt(value, 10), impl.MaxTrees)), 2, 5)
		if p.Mins[0] != impl.MaxTrees*value || p.Maxs[0] != impl.MaxTrees*value || !slices.Equal(p.Ends, []int64{5, 10, 12}) {
			t.Error(p)
		}
	}
}

func checkPlans(t *testing.T, e impl.Ens) {
	t.Helper()
	n := int64(len(e.Trees))
	for policy := int64(1); policy <= 3; policy++ {
		order := plainOrder(e, policy)
		if got := impl.OrderOf(e, policy); !slices.Equal(got, order) {
			t.Fatalf("OrderOf(%v, %d) = %v instead of %v", e, policy, got, order)
		}
		for stage := int64(1); stage <= impl.MaxTrees; stage++ {
			p := plan(t, e, policy, stage)
			if !samePlan(p, plainPlan(e, order, plainEnds(n, stage))) {
				t.Fatalf("PlanOf(%v, %d, %d) = %v", e, policy, stage, p)
			}
			if !impl.PlanOk(e, p) || !plainPlanOk(e, p) {
				t.Fatalf("PlanOf(%v, %d, %d) is not valid: %v", e, policy, stage, p)
			}
			least, greatest := impl.SpanOf(e)
			if e.Bias+p.Mins[0] != least || e.Bias+p.Maxs[0] != greatest {
				t.Fatalf("PlanOf(%v, %d, %d) = %v", e, policy, stage, p)
			}
		}
	}
}

func TestPlansAreValid(t *testing.T) {
	for _, s := range append(flatTexts(), planEns) {
		checkPlans(t, ens(t, s))
	}
	r := rand.New(rand.NewSource(41))
	for range 300 {
		checkPlans(t, planningEns(r, r.Intn(impl.MaxTrees+1)))
	}
	for n := range impl.MaxTrees + 1 {
		checkPlans(t, planningEns(r, n))
	}
}

// planningEns has trees of which many are equal, or equal in range or depth.
func planningEns(r *rand.Rand, n int) impl.Ens {
	e := impl.Ens{Feats: 2, Bias: r.Int63n(21) - 10}
	for range n {
		x := randomTree(r, r.Intn(4), 2)
		for i := range x {
			if x[i].Left == 0 {
				x[i].Value = r.Int63n(5) - 2
			}
		}
		e.Trees = append(e.Trees, x)
	}
	return repeatTrees(r, e)
}

func checkNoPlan(t *testing.T, e impl.Ens, policy, stage int64) {
	t.Helper()
	if p, ok := impl.PlanOf(e, policy, stage); ok || !samePlan(p, impl.Plan{}) {
		t.Errorf("PlanOf(%v, %d, %d) = %v, %v", e, policy, stage, p, ok)
	}
}

func TestPlanOfRejects(t *testing.T) {
	for _, s := range []string{planEns, "1 9", "1 0 | l0", withTrees("1 0", "l1", impl.MaxTrees)} {
		e := ens(t, s)
		for _, policy := range []int64{0, 4, -1, 5, -2, 1<<32 + 1, minInt, maxInt} {
			if order := impl.OrderOf(e, policy); len(order) != 0 {
				t.Errorf("OrderOf(%q, %d) = %v", s, policy, order)
			}
			for _, stage := range []int64{0, 1, 4, 12} {
				checkNoPlan(t, e, policy, stage)
			}
		}
		for _, stage := range []int64{0, impl.MaxTrees + 1, -1, -4, 100, 1<<32 + 1, minInt, maxInt} {
			for policy := int64(1); policy <= 3; policy++ {
				checkNoPlan(t, e, policy, stage)
			}
		}
	}
	for _, e := range badEns() {
		for policy := int64(0); policy <= 4; policy++ {
			if order := impl.OrderOf(e, policy); len(order) != 0 {
				t.Errorf("OrderOf(%v, %d) = %v", e, policy, order)
			}
			checkNoPlan(t, e, policy, 1)
			checkNoPlan(t, e, policy, 12)
		}
	}
}

func TestPlanOkRejectsEns(t *testing.T) {
	for name, e := range badEns() {
		for _, p := range plansForBad(e) {
			if impl.PlanOk(e, p) {
				t.Errorf("%s: PlanOk(%v) is true", name, p)
			}
		}
	}
	e := ens(t, planEns)
	p := plan(t, e, 2, 3)
	e.Bias = impl.MaxValue + 1
	if impl.PlanOk(e, p) {
		t.Error("PlanOk of too great a Bias is true")
	}
}

// plansForBad are as near to valid plans as an ensemble that is not valid
// allows: the last one has the sums of the trees that are trees.
func plansForBad(e impl.Ens) []impl.Plan {
	p := impl.Plan{Mins: []int64{0}, Maxs: []int64{0}}
	for i := range int64(min(len(e.Trees), 20)) {
		p.Order = append(p.Order, i)
	}
	p.Ends = []int64{int64(len(p.Order))}
	for _, at := range slices.Backward(p.Order) {
		lo, hi := impl.RangeOf(e.Trees[at])
		p.Mins, p.Maxs = slices.Insert(p.Mins, 0, p.Mins[0]+lo), slices.Insert(p.Maxs, 0, p.Maxs[0]+hi)
	}
	return []impl.Plan{{}, {Mins: []int64{0}, Maxs: []int64{0}}, p}
}

// badPlans are not valid for planEns.
func badPlans(t *testing.T) map[string]impl.Plan {
	base := plan(t, ens(t, planEns), 2, 3)
	list := map[string]impl.Plan{"zero": {}, "no trees": {Mins: []int64{0}, Maxs: []int64{0}}}
	put := func(of string, lists ...[]int64) {
		for i, l := range lists {
			p := copyPlan(base)
			*planLists(&p)[of] = l
			list[of+" "+strconv.Itoa(i)] = p
		}
	}
	put("Order", nil, []int64{1, 2, 0}, []int64{1, 2, 0, 0}, []int64{1, 1, 0, 3}, []int64{1, 2, 0, 4}, []int64{1, 2, 0, -1}, []int64{1, 2, 0, 3, 3}, []int64{1, 2, 0, 3, 4},
		[]int64{1, 2, 0, 3, 0}, []int64{0, 1, 2, 3}, []int64{2, 1, 0, 3}, []int64{1, 2, 0, 12}, []int64{1, 2, 0, 1<<32 + 3}, []int64{1, 2, 0, minInt}, []int64{maxInt, 2, 0, 3},
		[]int64{3, 3, 3, 3}, []int64{0, 0, 0, 0}, make([]int64, 1000))
	put("Ends", nil, []int64{3}, []int64{1, 2, 3}, []int64{0, 4}, []int64{0, 1, 4}, []int64{-1, 4}, []int64{2, 2, 4}, []int64{4, 4}, []int64{3, 2, 4}, []int64{4, 3}, []int64{5}, []int64{4, 5}, []int64{3, 5},
		[]int64{minInt, 4}, []int64{maxInt}, []int64{4, maxInt}, []int64{1<<32 + 4}, []int64{0}, []int64{0, 1, 2, 3, 4}, []int64{1, 2, 3, 4, 4}, []int64{1, 3, 3, 4}, make([]int64, 1000))
	for _, of := range []string{"Mins", "Maxs"} {
		old := *planLists(&base)[of]
		put(of, nil, old[:4], old[1:], append(slices.Clone(old), 0), append([]int64{0}, old...), slices.Repeat([]int64{0}, 5), make([]int64, 1000))
		for i := range old {
			for _, by := range []int64{1, -1, 1 << 32, minInt} {
				p := copyPlan(base)
				(*planLists(&p)[of])[i] += by
				list[of+" at "+strconv.Itoa(i)+" is off by "+strconv.FormatInt(by, 10)] = p
			}
		}
	}
	swapped := copyPlan(base)
	swapped.Mins, swapped.Maxs = swapped.Maxs, swapped.Mins
	list["Mins and Maxs are exchanged"] = swapped
	other := plan(t, ens(t, planEns), 1, 3)
	other.Order = base.Order
	list["the tables of another order"] = other
	// A tree too few or too many, and tables that go with that.
	for i, order := range [][]int64{nil, {1}, {1, 2, 0}, {1, 2, 3}, {2, 0, 3}, {1, 2, 0, 0}, {1, 2, 3, 3}, {1, 2, 0, 3, 3}, {1, 2, 0, 3, 1}} {
		for j, ends := range [][]int64{nil, {4}, {3}, {3, 4}, {1, 4}, {5}, {4, 5}} {
			name := "Order " + strconv.Itoa(i) + " with its tables and Ends " + strconv.Itoa(j)
			list[name] = plainPlan(ens(t, planEns), order, ends)
		}
	}
	return list
}

func TestBadPlans(t *testing.T) {
	e := ens(t, planEns)
	for name, p := range badPlans(t) {
		if impl.PlanOk(e, p) {
			t.Errorf("%s: PlanOk(%v) is true", name, p)
		}
	}
}

func TestPlanOkWithoutTrees(t *testing.T) {
	e := ens(t, "1 9")
	zero, one := []int64{0}, []int64{1}
	for _, p := range []impl.Plan{
		{Mins: zero, Maxs: zero}, {Order: []int64{}, Ends: []int64{}, Mins: zero, Maxs: zero},
	} {
		if !impl.PlanOk(e, p) {
			t.Errorf("PlanOk(%v) is false", p)
		}
	}
	for _, p := range []impl.Plan{
		{}, {Mins: zero}, {Maxs: zero}, {Mins: one, Maxs: zero}, {Mins: zero, Maxs: one}, {Mins: []int64{0, 0}, Maxs: zero}, {Mins: zero, Maxs: []int64{0, 0}},
		{Order: zero, Mins: zero, Maxs: zero}, {Ends: zero, Mins: zero, Maxs: zero}, {Ends: one, Mins: zero, Maxs: zero}, {Order: zero, Ends: one, Mins: zero, Maxs: zero},
		{Mins: []int64{9}, Maxs: []int64{9}}, plan(t, ens(t, "1 9 | l0"), 1, 1),
	} {
		if impl.PlanOk(e, p) {
			t.Errorf("PlanOk(%v) is true", p)
		}
	}
}

// Equal trees are different elements of an order: each of them is there once,
// and they may be exchanged.
func TestPlanOkOfEqualTrees(t *testing.T) {
	e := ens(t, "1 0 | l5 | s0:1:1:2:l l1 l2 | l5 | s0:1:1:2:l l1 l2")
	for _, order := range [][]int64{{0, 1, 2, 3}, {2, 1, 0, 3}, {0, 3, 2, 1}, {2, 3, 0, 1}} {
		p := impl.Plan{Order: order, Ends: []int64{4}, Mins: []int64{12, 7, 6, 1, 0}, Maxs: []int64{14, 9, 7, 2, 0}}
		if !impl.PlanOk(e, p) {
			t.Errorf("PlanOk(%v) is false", p)
		}
	}
	for _, order := range [][]int64{{0, 1, 0, 3}, {2, 1, 2, 3}, {0, 1, 2, 1}, {0, 3, 2, 3}, {0, 1, 0, 1}} {
		p := impl.Plan{Order: order, Ends: []int64{4}, Mins: []int64{12, 7, 6, 1, 0}, Maxs: []int64{14, 9, 7, 2, 0}}
		if impl.PlanOk(e, p) {
			t.Errorf("PlanOk(%v) is true", p)
		}
	}
}

// randomPlan has any order and any ends.
func randomPlan(r *rand.Rand, e impl.Ens) impl.Plan {
	var order, ends []int64
	n := len(e.Trees)
	for i, at := range r.Perm(n) {
		order = append(order, int64(at))
		if i+1 == n || r.Intn(2) == 0 {
			ends = append(ends, int64(i+1))
		}
	}
	return plainPlan(e, order, ends)
}

// changePlan changes a few numbers or a length.
func changePlan(r *rand.Rand, p *impl.Plan) {
	list := planLists(p)[[]string{"Order", "Ends", "Mins", "Maxs"}[r.Intn(4)]]
	switch {
	case len(*list) == 0 || r.Intn(6) == 0:
		*list = slices.Insert(*list, r.Intn(len(*list)+1), int64(r.Intn(3)))
	case r.Intn(5) == 0:
		at := r.Intn(len(*list))
		*list = slices.Delete(*list, at, at+1)
	case r.Intn(4) == 0:
		i, j := r.Intn(len(*list)), r.Intn(len(*list))
		(*list)[i], (*list)[j] = (*list)[j], (*list)[i]
	default:
		(*list)[r.Intn(len(*list))] += int64(r.Intn(5) - 2)
	}
}

func TestPlanOkOfOtherPlans(t *testing.T) {
	r := rand.New(rand.NewSource(42))
	seen := map[bool]int{}
	for range 40000 {
		e := planningEns(r, r.Intn(7))
		p := randomPlan(r, e)
		if !impl.PlanOk(e, p) {
			t.Fatalf("PlanOk(%v, %v) is false", e, p)
		}
		p = copyPlan(p)
		changePlan(r, &p)
		want := plainPlanOk(e, p)
		if got := impl.PlanOk(e, p); got != want {
			t.Fatalf("PlanOk(%v, %v) is %v", e, p, got)
		}
		seen[want]++
	}
	if seen[true] < 4000 || seen[false] < 4000 {
		t.Errorf("the plans are too much alike: %v", seen)
	}
}

func TestPlanOfAnotherEns(t *testing.T) {
	e := ens(t, planEns)
	p := plan(t, e, 2, 3)
	for _, s := range []string{
		"1 0", "1 0 | l7", planEns + " | l0", "1 0 | l7 | s0:5:1:2:l l10 l-4 | s0:5:1:4:l s0:1:2:3:l l1 l2 l3 | l1",
		"1 0 | l7 | s0:5:1:2:l l10 l-5 | s0:5:1:4:l s0:1:2:3:l l1 l2 l3 | l0", "1 0 | l0 | s0:5:1:2:l l10 l-4 | s0:5:1:4:l s0:1:2:3:l l1 l2 l3 | l7",
	} {
		if impl.PlanOk(ens(t, s), p) {
			t.Errorf("PlanOk(%q, %v) is true", s, p)
		}
	}
	// Bias and splits do not count, only what the leaves allow.
	if !impl.PlanOk(ens(t, "6 99 | l7 | s5:0:2:1:r l10 l-4 | s0:5:1:2:l l3 l1 | l0"), p) {
		t.Error("PlanOk of other splits is false")
	}
}

// guardPlan is a plan with spare capacity behind each of its lists.
func guardPlan(p impl.Plan) (guarded impl.Plan, check func(t *testing.T)) {
	before := copyPlan(p)
	var checks []func(t *testing.T)
	for name, list := range planLists(&p) {
		g := guard(*list, 77)
		*list = g.list
		checks = append(checks, func(t *testing.T) {
			t.Helper()
			g.check(t, *planLists(&before)[name], 77)
		})
	}
	return p, func(t *testing.T) {
		t.Helper()
		for _, c := range checks {
			c(t)
		}
	}
}

func TestPlanArgumentsStay(t *testing.T) {
	list := badEns()
	for _, s := range append(flatTexts(), planEns) {
		list[s] = ens(t, s)
	}
	plans := badPlans(t)
	plans["good"] = plan(t, ens(t, planEns), 2, 3)
	checks := map[string]func(*testing.T){}
	for name, p := range plans {
		plans[name], checks[name] = guardPlan(p)
	}
	for name, e := range list {
		g, check := guardEns(e)
		for policy := int64(0); policy <= 4; policy++ {
			p, _ := impl.PlanOf(g, policy, 2)
			spoilList(impl.OrderOf(g, policy), 99)
			for _, l := range planLists(&p) {
				spoilList(*l, 99)
			}
		}
		for _, p := range plans {
			impl.PlanOk(g, p)
		}
		t.Run(name, check)
	}
	for name, check := range checks {
		t.Run(name, check)
	}
}

func TestPlanResultsAreNew(t *testing.T) {
	for _, s := range append(flatTexts(), planEns) {
		e := ens(t, s)
		for policy := int64(1); policy <= 3; policy++ {
			want := plan(t, e, policy, 2)
			for name := range planLists(&want) {
				p, other := plan(t, e, policy, 2), copyPlan(want)
				spoilList(*planLists(&p)[name], 99)
				*planLists(&p)[name], *planLists(&other)[name] = nil, nil
				if !samePlan(p, other) || !samePlan(plan(t, e, policy, 2), want) {
					t.Errorf("PlanOf(%q, %d): %s shares memory", s, policy, name)
				}
			}
			spoilList(impl.OrderOf(e, policy), 99)
			if !slices.Equal(impl.OrderOf(e, policy), want.Order) {
				t.Errorf("OrderOf(%q, %d) shares memory", s, policy)
			}
		}
	}
}
