package tests

import (
	"fmt"
	"math/rand"
	"slices"
	"strings"
	"testing"

	"loop.example/g00762/impl"
)

func sameMachine(a, b impl.Machine) bool {
	return a.Ready == b.Ready && sameEns(a.E, b.E) && samePlan(a.P, b.P) && sameCache(a.C, b.C)
}

func copyMachine(m impl.Machine) impl.Machine {
	m.E, m.P, m.C = copyEns(m.E), copyPlan(m.P), copyCache(m.C)
	return m
}

func sameAnswer(a, b impl.Answer) bool {
	return a.Code == b.Code && a.Cost == b.Cost && slices.Equal(a.Nums, b.Nums) && slices.Equal(a.Hits, b.Hits)
}

func sameAnswers(a, b []impl.Answer) bool {
	return slices.EqualFunc(a, b, sameAnswer)
}

func copyAnswers(list []impl.Answer) []impl.Answer {
	list = slices.Clone(list)
	for i, a := range list {
		list[i].Nums, list[i].Hits = slices.Clone(a.Nums), slices.Clone(a.Hits)
	}
	return list
}

// spoilPlay writes to all memory of a machine and its answers.
func spoilPlay(m impl.Machine, list []impl.Answer) {
	spoil(m.E)
	for _, x := range planLists(&m.P) {
		spoilList(*x, 99)
	}
	spoilCache(m.C)
	for _, a := range list {
		spoilList(a.Nums, 99)
		spoilList(a.Hits, impl.Hit{Index: 99})
	}
	spoilList(list, impl.Answer{Code: 99})
}

// rejected is the answer of a command that is rejected.
func rejected(x int64) string {
	return answerText(impl.Answer{Code: x})
}

// answerText has all fields of an answer.
func answerText(a impl.Answer) string {
	return fmt.Sprintf("%d %v %v %d", a.Code, a.Nums, a.Hits, a.Cost)
}

type dialog []struct{ cmd, answer string }

// checkDialog plays commands and compares all answers.
func checkDialog(t *testing.T, steps dialog) impl.Machine {
	t.Helper()
	var list []impl.Cmd
	for _, s := range steps {
		list = append(list, cmd(t, s.cmd))
	}
	m, answers := impl.Play(list)
	if len(answers) != len(steps) {
		t.Fatalf("there are %d answers of %d commands", len(answers), len(steps))
	}
	sum := int64(0)
	naive := copyAnswers(answers)
	for i, s := range steps {
		if got := answerText(answers[i]); got != s.answer {
			t.Errorf("command %d, %q: %s instead of %s", i, s.cmd, got, s.answer)
		}
		sum += answers[i].Cost
		naive[i].Cost = 0
	}
	if got := impl.Naive(list); !sameAnswers(got, naive) {
		t.Errorf("Naive = %v", got)
	}
	if got := impl.CostsOf(list); got != sum {
		t.Errorf("CostsOf = %d instead of %d", got, sum)
	}
	return m
}

func TestPlayExample(t *testing.T) {
	const ok = "0 [] [] 0"
	e := ens(t, stageEns)
	m := checkDialog(t, dialog{
		{"score 1", rejected(impl.MhNone)},
		{"load x", rejected(impl.MhText)},
		{"load " + stageEns, ok},
		{"score 3 3 9 4", "0 [116 116 102 116] [] 4"},
		{"score 3 9", "0 [116 102] [] 0"},
		{"score - 2 -1000000", "0 [118 118 118] [] 2"},
		{"score 1,2", rejected(impl.MhDoc)},
		{"class 103 3 9", "0 [1 0] [] 3"},
		{"class 102 3 9 -", "0 [1 1 1] [] 0"},
		{"class 119 3 9 -", "0 [0 0 0] [] 0"},
		{"plan 2 3", ok},
		{"class 103 3 9", "0 [1 0] [] 4"},
		{"class 117 3 9 -", "0 [0 0 1] [] 6"},
		{"plan 4 1", rejected(impl.MhPlan)},
		{"top 1 9 3 1", "0 [] [{2 118}] 6"},
		{"top 2 9 3 1 -", "0 [] [{2 118} {3 118}] 8"},
		{"top 1 - 3 9 1", "0 [] [{0 118}] 2"},
		{"top 0 9 3 1", ok},
		{"top 20 9 3", "0 [] [{1 116} {0 102}] 4"},
		{"score", ok},
		{"class 5", ok},
		{"top 5", ok},
		{"score 9 5 1", "0 [102 116 118] [] 0"},
	})
	want := impl.Machine{Ready: true, E: e, P: plan(t, e, 2, 3), C: cache(8, 12,
		slot(3, 5, 116, 11), slot(6, impl.MaxFeat, 102, 10), impl.Slot{Box: []impl.Span{{Lo: -impl.MaxFeat, Hi: 2, Gone: true}}, Score: 118, Used: 12})}
	if !sameMachine(m, want) {
		t.Errorf("the machine is %v instead of %v", m, want)
	}
}

func TestPlayOfNoCommands(t *testing.T) {
	for _, list := range [][]impl.Cmd{nil, {}} {
		if m, answers := impl.Play(list); !sameMachine(m, impl.Machine{}) || len(answers) != 0 {
			t.Errorf("Play = %v, %v", m, answers)
		}
		if got := impl.Naive(list); len(got) != 0 {
			t.Errorf("Naive = %v", got)
		}
		if got := impl.CostsOf(list); got != 0 {
			t.Errorf("CostsOf = %d", got)
		}
	}
}

func TestMostCommands(t *testing.T) {
	list := append(cmds(t, "load "+rankEns), slices.Repeat(cmds(t, "class 0 3 4"), impl.MaxCmds-1)...)
	m, answers := impl.Play(list)
	if !m.Ready || len(answers) != 60 || answerText(answers[59]) != "0 [1 1] [] 2" || impl.CostsOf(list) != 59*2 || len(impl.Naive(list)) != 60 {
		t.Errorf("Play = %v, %v", m, answers)
	}
	for _, long := range [][]impl.Cmd{append(list, cmd(t, "score 3")), append(list, impl.Cmd{}), slices.Repeat(list, 20), make([]impl.Cmd, 61)} {
		if m, answers := impl.Play(long); !sameMachine(m, impl.Machine{}) || len(answers) != 0 {
			t.Errorf("Play of %d commands = %v, %v", len(long), m, answers)
		}
		if got := impl.Naive(long); len(got) != 0 {
			t.Errorf("Naive of %d commands = %v", len(long), got)
		}
		if got := impl.CostsOf(long); got != 0 {
			t.Errorf("CostsOf of %d commands = %d", len(long), got)
		}
	}
	if _, answers := impl.Play(make([]impl.Cmd, 60)); len(answers) != 60 || answers[59].Code != impl.MhForm {
		t.Error(answers)
	}
}

// beginnings are commands before another one: there is no ensemble, or one
// with one feature, with and without trees, which was loaded first or again.
func beginnings(t *testing.T) (without, with [][]impl.Cmd) {
	without = [][]impl.Cmd{nil, cmds(t, "load x"), cmds(t, "score 1", "plan 1 1", "load 1 0 |")}
	with = [][]impl.Cmd{
		cmds(t, "load "+stageEns),
		cmds(t, "load 1 7"),
		cmds(t, "load "+stageEns, "score 3 9 -", "plan 2 3", "class 103 3 9"),
		cmds(t, "load "+exampleEns, "score 3,9 1,2", "plan 3 1", "load "+stageEns, "score 4"),
	}
	return without, with
}

// checkCode plays a command behind others, and checks that a rejection changes nothing.
func checkCode(t *testing.T, before []impl.Cmd, c impl.Cmd, want int64) {
	t.Helper()
	m, answers := impl.Play(before)
	next, more := impl.Play(append(slices.Clone(before), c))
	if len(more) != len(before)+1 || !sameAnswers(more[:len(before)], answers) {
		t.Fatalf("%v changes the answers %v before to %v", c, answers, more)
	}
	last := more[len(before)]
	if last.Code != want {
		t.Errorf("%v behind %d commands: %s instead of %s", c, len(before), answerText(last), rejected(want))
	}
	if want != impl.MhOk && (answerText(last) != rejected(want) || !sameMachine(next, m)) {
		t.Errorf("%v behind %d commands: %s, and the machine is %v instead of %v", c, len(before), answerText(last), next, m)
	}
}

func TestOrderOfCodes(t *testing.T) {
	two := [][]int64{{1, 2}}
	without, with := beginnings(t)
	for _, x := range []struct {
		c             impl.Cmd
		without, with int64
	}{
		{loadCmd(exampleEns), impl.MhOk, impl.MhOk},
		{loadCmd("x"), impl.MhText, impl.MhText},
		{loadCmd(""), impl.MhText, impl.MhText},
		{loadCmd(exampleEns + " "), impl.MhText, impl.MhText},
		{loadCmd("0 0"), impl.MhText, impl.MhText},
		{loadCmd("7 0"), impl.MhText, impl.MhText},
		{loadCmd(withTrees("1 0", "l1", impl.MaxTrees+1)), impl.MhText, impl.MhText},
		{cmd(t, "plan 1 1"), impl.MhNone, impl.MhOk},
		{cmd(t, "plan 3 12"), impl.MhNone, impl.MhOk},
		{cmd(t, "plan 0 1"), impl.MhNone, impl.MhPlan},
		{cmd(t, "plan 4 1"), impl.MhNone, impl.MhPlan},
		{cmd(t, "plan 1 0"), impl.MhNone, impl.MhPlan},
		{cmd(t, "plan 1 13"), impl.MhNone, impl.MhPlan},
		{cmd(t, "plan 99 99"), impl.MhNone, impl.MhPlan},
		{cmd(t, "plan 0 0"), impl.MhNone, impl.MhPlan},
		{cmd(t, "score"), impl.MhNone, impl.MhOk},
		{cmd(t, "class 0"), impl.MhNone, impl.MhOk},
		{cmd(t, "top 0"), impl.MhNone, impl.MhOk},
		{cmd(t, "score 1 -"), impl.MhNone, impl.MhOk},
		{cmd(t, "class 100000000000 1 -"), impl.MhNone, impl.MhOk},
		{cmd(t, "class -100000000000 1 -"), impl.MhNone, impl.MhOk},
		{cmd(t, "top 20 1 -"), impl.MhNone, impl.MhOk},
		{cmd(t, "score 1,2"), impl.MhNone, impl.MhDoc},
		{cmd(t, "class 0 1,2"), impl.MhNone, impl.MhDoc},
		{cmd(t, "top 0 1,2"), impl.MhNone, impl.MhDoc},
		{cmd(t, "score 1,2 1"), impl.MhNone, impl.MhDoc},
		{cmd(t, "score 1 -,-,-,-,-,-"), impl.MhNone, impl.MhDoc},
		{cmd(t, "class 0"+strings.Repeat(" 1", 19)+" 1,2"), impl.MhNone, impl.MhDoc},
		{cmd(t, "top 1"+strings.Repeat(" 1", 19)+" 1,2"), impl.MhNone, impl.MhDoc},
		// what is not valid is nothing else
		{impl.Cmd{Kind: impl.CmPlan, A: 100, B: 1}, impl.MhForm, impl.MhForm},
		{impl.Cmd{Kind: impl.CmPlan, A: 1, B: 100}, impl.MhForm, impl.MhForm},
		{impl.Cmd{Kind: impl.CmPlan, A: 4, B: 1, Docs: two}, impl.MhForm, impl.MhForm},
		{impl.Cmd{Kind: impl.CmScore, A: 1, Docs: two}, impl.MhForm, impl.MhForm},
		{impl.Cmd{Kind: impl.CmClass, T: impl.MaxScore + 1, Docs: two}, impl.MhForm, impl.MhForm},
		{impl.Cmd{Kind: impl.CmTop, A: impl.MaxDocs + 1, Docs: two}, impl.MhForm, impl.MhForm},
		{impl.Cmd{Kind: impl.CmScore, Docs: zeroDocs(21, 2)}, impl.MhForm, impl.MhForm},
		{impl.Cmd{Kind: impl.CmScore, Docs: [][]int64{{1, 2}, {impl.MaxFeat + 1}}}, impl.MhForm, impl.MhForm},
		{impl.Cmd{Kind: impl.CmLoad, A: 1, Text: "x"}, impl.MhForm, impl.MhForm},
		{impl.Cmd{Kind: impl.CmLoad, A: 1, Text: exampleEns}, impl.MhForm, impl.MhForm},
		{loadCmd("x\n"), impl.MhForm, impl.MhForm},
		{loadCmd(exampleEns + "\n"), impl.MhForm, impl.MhForm},
	} {
		for _, before := range without {
			checkCode(t, before, x.c, x.without)
		}
		for _, before := range with {
			checkCode(t, before, x.c, x.with)
		}
	}
}

func TestInvalidCommands(t *testing.T) {
	without, with := beginnings(t)
	for name, c := range badCmds() {
		t.Run(name, func(t *testing.T) {
			checkCode(t, without[0], c, impl.MhForm)
			checkCode(t, with[2], c, impl.MhForm)
		})
	}
}

// Each ensemble that is valid is loaded, and what was there before is gone.
func TestLoadBeginsAnew(t *testing.T) {
	_, with := beginnings(t)
	for _, s := range flatTexts() {
		e := ens(t, s)
		want := impl.Machine{Ready: true, E: e, P: plan(t, e, 1, 1), C: impl.Cache{Cap: impl.MaxSlots}}
		for _, before := range append(with, nil) {
			checkCode(t, before, loadCmd(s), impl.MhOk)
			m, answers := impl.Play(append(slices.Clone(before), loadCmd(s)))
			if !sameMachine(m, want) || answerText(answers[len(before)]) != rejected(impl.MhOk) {
				t.Errorf("load %s: the machine is %v", s, m)
			}
		}
	}
	// The same region has another score, and other documents fit.
	checkDialog(t, dialog{
		{"load 1 5 | s0:5:1:2:l l1 l2", "0 [] [] 0"},
		{"score 3 3", "0 [6 6] [] 1"},
		{"load 1 7 | s0:5:1:2:l l1 l2", "0 [] [] 0"},
		{"score 3 3", "0 [8 8] [] 1"},
		{"load 1 7 | s0:5:1:2:l l1 l3", "0 [] [] 0"},
		{"score 3 6 3", "0 [8 10 8] [] 2"},
		{"load 2 0", "0 [] [] 0"},
		{"score 3", rejected(impl.MhDoc)},
		{"load 2 0 | s0:9:1:2:l l1 l3 | l", rejected(impl.MhText)},
		{"score 3,3", "0 [0] [] 0"},
	})
}

func TestPlansOfAMachine(t *testing.T) {
	for _, s := range []string{planEns, "1 5", "1 7 | l5", withTrees("1 9", "s0:5:1:2:l l10 l-4", impl.MaxTrees)} {
		e := ens(t, s)
		for a := int64(0); a <= 5; a++ {
			for b := int64(0); b <= 14; b++ {
				m, answers := impl.Play([]impl.Cmd{loadCmd(s), {Kind: impl.CmPlan, A: a, B: b}})
				want, ok := impl.PlanOf(e, a, b)
				wantCode := int64(impl.MhOk)
				if !ok {
					want, wantCode = plan(t, e, 1, 1), impl.MhPlan
				}
				if !samePlan(m.P, want) || answerText(answers[1]) != rejected(wantCode) {
					t.Errorf("plan %d %d of %s is %v; %s", a, b, s, m.P, answerText(answers[1]))
				}
			}
		}
	}
}

func TestMachineWithoutTrees(t *testing.T) {
	const ok = "0 [] [] 0"
	m := checkDialog(t, dialog{
		{"load 2 7", ok},
		{"score 1,2 -,- 0,0", "0 [7 7 7] [] 0"},
		{"class 7 1,1 -,2", "0 [1 1] [] 0"},
		{"class 8 1,1 -,2", "0 [0 0] [] 0"},
		{"top 2 1,1 2,2 3,3", "0 [] [{0 7} {1 7}] 0"},
		{"plan 4 1", rejected(impl.MhPlan)},
		{"plan 1 13", rejected(impl.MhPlan)},
		{"plan 3 12", ok},
		{"top 1 1,1 2,2 3,3", "0 [] [{0 7}] 0"},
		{"score 1", rejected(impl.MhDoc)},
		{"score 5,5", "0 [7] [] 0"},
	})
	want := impl.Machine{Ready: true, E: impl.Ens{Feats: 2, Bias: 7}, P: impl.Plan{Mins: []int64{0}, Maxs: []int64{0}},
		C: cache(8, 4, impl.Slot{Box: []impl.Span{anything, anything}, Score: 7, Used: 4})}
	if !sameMachine(m, want) {
		t.Errorf("the machine is %v", m)
	}
}

// slotsText has the first Lo, the Score and the Used of each Slot.
func slotsText(c impl.Cache) string {
	s := fmt.Sprintf("%d/%d", c.Clock, c.Cap)
	for _, x := range c.Slots {
		s += fmt.Sprintf(" %d:%d:%d", x.Box[0].Lo, x.Score, x.Used)
	}
	return s
}

func TestMachineWithMoreRegionsThanSlots(t *testing.T) {
	load := "load 1 0 | " + chainTree + " | s0:10:1:2:l l0 l100"
	const ok = "0 [] [] 0"
	steps := dialog{
		{load, ok},
		{"score 0 1 2 3", "0 [1 2 3 4] [] 14"},
		{"score 4 5 6 10", "0 [5 6 7 8] [] 29"},
		{"score - 7", "0 [1 8] [] 0"},
		{"score 11", "0 [108] [] 8"},
	}
	m := checkDialog(t, steps)
	if got := slotsText(m.C); got != "11/8 -1000000:1:9 2:3:3 3:4:4 4:5:5 5:6:6 6:7:7 7:8:10 11:108:11" {
		t.Errorf("the cache is %s", got)
	}
	// The document that was removed comes back, and so on.
	steps = append(steps, dialog{{"score 1 0 2 2 4", "0 [2 1 3 3 5] [] 7"}}...)
	m = checkDialog(t, steps)
	if got := slotsText(m.C); got != "16/8 -1000000:1:13 4:5:16 5:6:6 6:7:7 7:8:10 11:108:11 1:2:12 2:3:15" {
		t.Errorf("the cache is %s", got)
	}
	steps = append(steps, dialog{{"score 3 11 3 12 4 -", "0 [4 108 4 108 5 1] [] 5"}, {"top 1 0", "0 [] [{0 1}] 2"}}...)
	m = checkDialog(t, steps)
	if got := slotsText(m.C); got != "22/8 -1000000:1:22 4:5:21 6:7:7 7:8:10 11:108:20 1:2:12 2:3:15 3:4:19" {
		t.Errorf("the cache is %s", got)
	}
}

// If one document does not fit, none of the others is put into the cache or found in it.
func TestDocThatDoesNotFit(t *testing.T) {
	for _, s := range []string{"score 9 4 1,2", "score 1,2 9 4", "score 9 1,2 4", "class 5 9 1,2", "top 3 1,2 9", "score 9 3 -,-,-"} {
		m := checkDialog(t, dialog{
			{"load " + stageEns, "0 [] [] 0"},
			{"score 3", "0 [116] [] 2"},
			{s, rejected(impl.MhDoc)},
			{"score 9", "0 [102] [] 2"},
		})
		if got := slotsText(m.C); got != "2/8 3:116:1 6:102:2" {
			t.Errorf("%s: the cache is %s", s, got)
		}
	}
}

func TestSameDocTwice(t *testing.T) {
	m := checkDialog(t, dialog{
		{"load " + stageEns, "0 [] [] 0"},
		{"score 3 3", "0 [116 116] [] 2"},
		{"class 117 3 3", "0 [0 0] [] 4"},
		{"top 2 3 3", "0 [] [{0 116} {1 116}] 4"},
		{"score" + strings.Repeat(" 9", impl.MaxDocs), "0 [" + strings.TrimSpace(strings.Repeat("102 ", impl.MaxDocs)) + "] [] 2"},
	})
	if got := slotsText(m.C); got != "22/8 3:116:2 6:102:22" {
		t.Errorf("the cache is %s", got)
	}
}

// As many uses of the cache as there can be.
func TestMostUses(t *testing.T) {
	docs := docsOf(0, 1, 2, 3, 4, 5, 6, 7, 11, 0, 1, 2, 3, 4, 5, 6, 7, 11, 0, 1)
	e := ens(t, "1 0 | "+chainTree+" | s0:10:1:2:l l0 l100")
	list := append([]impl.Cmd{loadCmd(impl.EnsText(e))}, slices.Repeat([]impl.Cmd{{Kind: impl.CmScore, Docs: docs}}, impl.MaxCmds-1)...)
	m, answers := impl.Play(list)
	if m.C.Clock != 59*20 || len(m.C.Slots) != 8 || !impl.CacheOk(m.C) {
		t.Errorf("the cache is %v", m.C)
	}
	for i, a := range answers[1:] {
		for j, d := range docs {
			if a.Nums[j] != plainScore(e, d) {
				t.Fatalf("answer %d is %v", i+1, a)
			}
		}
	}
}

// plainCode checks one code after the other.
func plainCode(m impl.Machine, c impl.Cmd) int64 {
	_, isEns := plainEns(c.Text)
	misfit := slices.ContainsFunc(c.Docs, func(d []int64) bool { return int64(len(d)) != m.E.Feats })
	switch {
	case !impl.CmdOk(c):
		return impl.MhForm
	case c.Kind == impl.CmLoad && !isEns:
		return impl.MhText
	case c.Kind == impl.CmLoad:
		return impl.MhOk
	case !m.Ready:
		return impl.MhNone
	case misfit:
		return impl.MhDoc
	case c.Kind == impl.CmPlan && (c.A < 1 || c.A > 3 || c.B < 1 || c.B > 12):
		return impl.MhPlan
	}
	return impl.MhOk
}

// plainStep answers by the scores of all trees, whatever the plan and the
// cache are, which count for the cost and for the next machine only.
func plainStep(m impl.Machine, c impl.Cmd) (impl.Machine, impl.Answer) {
	a := impl.Answer{Code: plainCode(m, c)}
	if a.Code != impl.MhOk {
		return m, a
	}
	switch c.Kind {
	case impl.CmLoad:
		e, _ := plainEns(c.Text)
		m = impl.Machine{Ready: true, E: e, P: plainPlan(e, plainOrder(e, 1), plainEnds(int64(len(e.Trees)), 1)), C: cache(8, 0)}
	case impl.CmPlan:
		m.P = plainPlan(m.E, plainOrder(m.E, c.A), plainEnds(int64(len(m.E.Trees)), c.B))
	case impl.CmTop:
		a.Hits = plainTop(m.E, c.Docs, c.A)
		a.Cost = plainSum(plainCosts(m.E, m.P, c.Docs, c.A))
		return m, a
	}
	for _, d := range c.Docs {
		score := plainScore(m.E, d)
		if c.Kind == impl.CmScore {
			next, _, ok := plainGet(m.C, d)
			if !ok {
				region, _ := impl.RegionOf(m.E, d)
				next, _ = plainPut(m.C, region, score)
				a.Cost += plainCost(m.E, d)
			}
			m.C = next
			a.Nums = append(a.Nums, score)
			continue
		}
		is, s := plainClass(m.E, m.P, d, c.T)
		a.Cost += s.Cost
		a.Nums = append(a.Nums, map[bool]int64{false: 0, true: 1}[is])
	}
	return m, a
}

// machineCmd is mostly a command that fits an ensemble with these features.
func machineCmd(r *rand.Rand, feats int) impl.Cmd {
	c := impl.Cmd{Kind: 1 + r.Int63n(kinds)}
	if c.Kind == impl.CmLoad && r.Intn(2) == 0 {
		c.Kind = impl.CmScore
	}
	switch c.Kind {
	case impl.CmLoad:
		c.Text = plainEnsText(boxyEns(r, feats))
		if r.Intn(3) == 0 {
			c.Text = mutated(r, c.Text, "01 |ls:-x\n")
		}
		return c
	case impl.CmPlan:
		c.A, c.B = r.Int63n(5), r.Int63n(14)
		return c
	case impl.CmClass:
		c.T = (r.Int63n(201) - 100) * impl.MaxValue / 20
	case impl.CmTop:
		c.A = r.Int63n(6)
	}
	for range r.Intn(8) {
		c.Docs = append(c.Docs, randomDoc(r, feats))
	}
	if r.Intn(12) == 0 {
		c.Docs = append(c.Docs, randomDoc(r, feats%impl.MaxFeats+1))
	}
	if r.Intn(12) == 0 {
		changeCmd(r, &c)
	}
	return c
}

// machineCmds mostly begin with an ensemble.
func machineCmds(r *rand.Rand, count int) []impl.Cmd {
	feats := 1 + r.Intn(3)
	var list []impl.Cmd
	for range r.Intn(3) {
		list = append(list, loadCmd(plainEnsText(boxyEns(r, feats))))
	}
	for len(list) < count {
		list = append(list, machineCmd(r, feats))
	}
	return list
}

func TestMachineOfAnyCommands(t *testing.T) {
	r := rand.New(rand.NewSource(84))
	codes, cached := map[int64]int{}, 0
	for range 400 {
		list := machineCmds(r, 5+r.Intn(impl.MaxCmds-4))
		m, answers := impl.Play(list)
		var want impl.Machine
		for i, c := range list {
			var a impl.Answer
			want, a = plainStep(want, c)
			if i >= len(answers) || !sameAnswer(answers[i], a) {
				t.Fatalf("command %d of %v: %v instead of %v", i, list, answers, a)
			}
			codes[a.Code]++
			if c.Kind == impl.CmScore && len(a.Nums) > 0 && a.Cost < int64(len(a.Nums)) {
				cached++
			}
		}
		if len(answers) != len(list) || !sameMachine(m, want) {
			t.Fatalf("Play(%v) = %v instead of %v", list, m, want)
		}
		if m.Ready && (!impl.EnsOk(m.E) || !impl.PlanOk(m.E, m.P) || !impl.CacheOk(m.C)) {
			t.Fatalf("Play(%v) = %v", list, m)
		}
	}
	for x := int64(0); x <= impl.MhPlan; x++ {
		if codes[x] < 100 || cached < 100 {
			t.Errorf("the commands are too much alike: %v; %d answers come from the cache", codes, cached)
		}
	}
}

func TestRejectedCommandsChangeNothing(t *testing.T) {
	r := rand.New(rand.NewSource(85))
	removed := 0
	for range 300 {
		list := machineCmds(r, 5+r.Intn(impl.MaxCmds-4))
		m, answers := impl.Play(list)
		var rest []impl.Cmd
		var restAnswers []impl.Answer
		for i, a := range answers {
			if a.Code == impl.MhOk {
				rest, restAnswers = append(rest, list[i]), append(restAnswers, a)
				continue
			}
			removed++
			if answerText(a) != rejected(a.Code) {
				t.Fatalf("%v has the answer %v", list[i], a)
			}
		}
		again, answersAgain := impl.Play(rest)
		if !sameMachine(again, m) || !sameAnswers(answersAgain, restAnswers) {
			t.Fatalf("without the rejected ones of %v: %v, %v instead of %v, %v", list, again, answersAgain, m, restAnswers)
		}
	}
	if removed < 1000 {
		t.Errorf("only %d commands were rejected", removed)
	}
}

// planOrScore changes the plan or the cache, but not what the machine answers.
func planOrScore(r *rand.Rand, feats int) impl.Cmd {
	if r.Intn(2) == 0 {
		return impl.Cmd{Kind: impl.CmPlan, A: 1 + r.Int63n(3), B: 1 + r.Int63n(impl.MaxTrees)}
	}
	return impl.Cmd{Kind: impl.CmScore, Docs: rankDocs(r, r.Intn(9), feats)}
}

func TestPlansAndCachesDoNotMatter(t *testing.T) {
	r := rand.New(rand.NewSource(86))
	costs := 0
	for range 300 {
		feats := 1 + r.Intn(3)
		list := []impl.Cmd{loadCmd(plainEnsText(boxyEns(r, feats)))}
		for len(list) < 20 {
			list = append(list, machineCmd(r, feats))
		}
		var longer []impl.Cmd
		at := make([]int, len(list))
		for i, c := range list {
			at[i] = len(longer)
			longer = append(longer, c)
			for range r.Intn(3) {
				longer = append(longer, planOrScore(r, feats))
			}
		}
		want, got := impl.Naive(list), impl.Naive(longer)
		for i, a := range want {
			if !sameAnswer(got[at[i]], a) {
				t.Fatalf("%v has the answer %v and, behind other plans and scores, %v", list[i], a, got[at[i]])
			}
		}
		if impl.CostsOf(list) != impl.CostsOf(longer) {
			costs++
		}
	}
	if costs < 200 {
		t.Errorf("only %d costs differ", costs)
	}
}

func TestNaiveAndCosts(t *testing.T) {
	r := rand.New(rand.NewSource(87))
	for range 200 {
		list := machineCmds(r, r.Intn(30))
		_, answers := impl.Play(list)
		sum := int64(0)
		for i := range answers {
			sum += answers[i].Cost
			answers[i].Cost = 0
		}
		if got := impl.Naive(list); !sameAnswers(got, answers) {
			t.Fatalf("Naive(%v) = %v", list, got)
		}
		if got := impl.CostsOf(list); got != sum {
			t.Fatalf("CostsOf(%v) = %d instead of %d", list, got, sum)
		}
	}
}

// A machine is what the commands before made it: the first answers stay.
func TestAnswersStayWithMoreCommands(t *testing.T) {
	r := rand.New(rand.NewSource(88))
	for range 60 {
		list := machineCmds(r, 25)
		_, all := impl.Play(list)
		for count := range len(list) + 1 {
			if _, answers := impl.Play(list[:count]); !sameAnswers(answers, all[:count]) {
				t.Fatalf("the first %d answers of %v are %v", count, list, answers)
			}
		}
	}
}

func TestMachineArgumentsStay(t *testing.T) {
	r := rand.New(rand.NewSource(89))
	filler := impl.Cmd{Kind: 77}
	for range 100 {
		list := machineCmds(r, 3+r.Intn(30))
		if r.Intn(10) == 0 {
			list = slices.Repeat(list, 20)
		}
		var checks []func(t *testing.T)
		whole := make([]impl.Cmd, 0, len(list)+2)
		for _, c := range list {
			g, check := guardCmd(c)
			whole, checks = append(whole, g), append(checks, check)
		}
		before := slices.Clone(whole)
		guarded := append(whole, filler, filler)[:len(list)]
		m, answers := impl.Play(guarded)
		naive := impl.Naive(guarded)
		impl.CostsOf(guarded)
		spoilPlay(m, answers)
		spoilPlay(impl.Machine{}, naive)
		for _, check := range checks {
			check(t)
		}
		behind := guarded[len(list):cap(guarded)]
		if !slices.EqualFunc(guarded, before, sameCmd) || !slices.EqualFunc(behind, []impl.Cmd{filler, filler}, sameCmd) {
			t.Fatalf("the argument %v was modified: %v", before, guarded[:cap(guarded)])
		}
	}
}

// checkOwnLists spoils each list of a machine in turn, and looks at all others.
func checkOwnLists(t *testing.T, m impl.Machine, answers []impl.Answer) {
	t.Helper()
	checkOwnBoxes(t, m.C)
	for name := range planLists(&m.P) {
		want := copyMachine(m)
		spoilList(*planLists(&m.P)[name], 99)
		spoilList(*planLists(&want.P)[name], 99)
		if !sameMachine(m, want) {
			t.Errorf("%s of %v shares memory", name, want)
		}
	}
	for i := range m.E.Trees {
		want := copyMachine(m)
		spoilList(m.E.Trees[i], impl.Node{Value: 99})
		spoilList(want.E.Trees[i], impl.Node{Value: 99})
		if !sameMachine(m, want) {
			t.Errorf("tree %d of %v shares memory", i, want)
		}
	}
	for i := range answers {
		want := copyAnswers(answers)
		spoilList(answers[i].Nums, 99)
		spoilList(want[i].Nums, 99)
		spoilList(answers[i].Hits, impl.Hit{Index: 99})
		spoilList(want[i].Hits, impl.Hit{Index: 99})
		if !sameAnswers(answers, want) {
			t.Errorf("answer %d of %v shares memory", i, want)
		}
	}
}

func TestMachineResultsAreNew(t *testing.T) {
	r := rand.New(rand.NewSource(90))
	for range 50 {
		list := machineCmds(r, 30)
		m, answers := impl.Play(list)
		naive := impl.Naive(list)
		checkOwnLists(t, m, answers)
		checkOwnLists(t, impl.Machine{}, naive)
	}
}

// Neither earlier calls nor what became of their results may count.
func TestEqualMachines(t *testing.T) {
	r := rand.New(rand.NewSource(91))
	for range 150 {
		list := machineCmds(r, r.Intn(40))
		m, answers := impl.Play(list)
		naive, costs := impl.Naive(list), impl.CostsOf(list)
		want, wantAnswers, wantNaive := copyMachine(m), copyAnswers(answers), copyAnswers(naive)
		spoilPlay(m, answers)
		if !sameAnswers(naive, wantNaive) {
			t.Fatalf("results of %v share memory", list)
		}
		spoilPlay(impl.Machine{}, naive)
		impl.Play(machineCmds(r, 5))
		var again []impl.Cmd
		for _, c := range list {
			again = append(again, copyCmd(c))
		}
		if got, gotAnswers := impl.Play(again); !sameMachine(got, want) || !sameAnswers(gotAnswers, wantAnswers) {
			t.Fatalf("Play(%v) = %v, %v and %v, %v", list, want, wantAnswers, got, gotAnswers)
		}
		if got := impl.Naive(again); !sameAnswers(got, wantNaive) || impl.CostsOf(again) != costs {
			t.Fatalf("Naive(%v) = %v and %v", list, wantNaive, got)
		}
	}
}
