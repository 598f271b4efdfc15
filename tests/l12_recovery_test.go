package tests

import (
	"math/rand"
	"slices"
	"strings"
	"testing"

	"loop.example/g00762/impl"
)

// diary is what a journal must contain: the commands at the last
// synchronization, and those since.
type diary struct {
	saved []impl.Cmd
	since []impl.Cmd
}

func (x diary) all() []impl.Cmd {
	return slices.Concat(x.saved, x.since)
}

// check looks at a disk after a loss of power, and returns the diary from there on.
func (x diary) check(t *testing.T, d impl.Disk) diary {
	t.Helper()
	got, code := impl.StoreView(d)
	count := len(got)
	if code != impl.StOk || count < len(x.saved) || count > len(x.all()) || !sameCmds(got, x.all()[:count]) {
		t.Fatalf("after the loss of power there are the commands %v with the code %d, of %v and %v", got, code, x.saved, x.since)
	}
	checkRecovered(t, d, got)
	return diary{saved: got}
}

func checkRecovered(t *testing.T, d impl.Disk, list []impl.Cmd) {
	t.Helper()
	wantMachine, wantAnswers := impl.Play(list)
	if m, answers, code := impl.Recovered(d); code != impl.StOk || !sameMachine(m, wantMachine) || !sameAnswers(answers, wantAnswers) {
		t.Fatalf("Recovered = %v, %v, %d", m, answers, code)
	}
}

// somePowers are more than any action has steps.
var somePowers = []int64{-1, 0, 1, 2, 3, 4, 5, 6}

// Each way in which three commands are added with or without Sync, each loss of
// power, with each Power of what follows it, and again each loss of power.
func TestPromise12InAllWays(t *testing.T) {
	for pattern := range 8 {
		d, x := journal(t, 0), diary{}
		for i := range 3 {
			if d = acted(t, d, addAct(planCmd(i), pattern>>i&1 != 0), impl.StOk); len(d.Ops) == 0 {
				x = diary{saved: append(x.all(), planCmd(i))}
			} else {
				x.since = append(x.since, planCmd(i))
			}
		}
		for bits := range 1 << len(d.Ops) {
			for _, torn := range []int64{0, 1, 4, 7, 8, 9, 17, 18, 99} {
				for _, power := range somePowers {
					after, _ := impl.StoreDo(d, powered(crashAct(torn, subset(bits)...), power))
					next := x.check(t, after)
					for again := range 1 << len(after.Ops) {
						for _, torn := range []int64{0, 1, 20, 99} {
							last := acted(t, after, crashAct(torn, subset(again)...), impl.StOk)
							next.check(t, last)
							added := acted(t, last, addAct(planCmd(50), true), impl.StOk)
							checkView(t, added, append(next.all(), planCmd(50)))
						}
					}
				}
			}
		}
	}
}

// A log that is torn at each byte is the log of the commands before.
func TestTornAtEachByte(t *testing.T) {
	d := journal(t, 4)
	ends := []int{0}
	for i := range 4 {
		ends = append(ends, len(goodLog(i+1)))
	}
	for kept := range 4 {
		for torn := range ends[kept+1] - ends[kept] + 2 {
			want := kept
			if torn >= ends[kept+1]-ends[kept] {
				want++
			}
			got := acted(t, d, crashAct(int64(torn), indexes(kept+1)...), impl.StOk)
			if !sameDisk(got, logDisk(goodLog(want))) {
				t.Errorf("%d commands and %d bytes: the disk is %v", kept, torn, got)
			}
			before := acted(t, d, powered(crashAct(int64(torn), indexes(kept+1)...), 0), map[bool]int64{true: impl.StOk, false: impl.StPower}[torn == 0 || want > kept])
			if len(before.Ops) != 0 || before.Live[0].Data != goodLog(4)[:min(ends[kept]+torn, ends[kept+1])] {
				t.Errorf("%d commands and %d bytes: without power the disk is %v", kept, torn, before)
			}
		}
	}
}

// randomAct prefers actions that are not rejected.
func randomAct(r *rand.Rand, d impl.Disk) impl.Act {
	a := impl.Act{Kind: impl.AcAdd, C: randomCmd(r), Sync: r.Intn(4) == 0, Power: -1, Torn: r.Int63n(80)}
	for at := range d.Ops {
		if r.Intn(5) > 0 {
			a.Keep = append(a.Keep, int64(at))
		}
	}
	switch r.Intn(8) {
	case 0, 1:
		a.Kind = impl.AcCrash
	case 2:
		a.Kind = impl.AcOpen
	case 3:
		a.Kind = impl.AcNew
	}
	if r.Intn(3) == 0 {
		a.Power = r.Int63n(6)
	}
	return a
}

// follow performs an action and checks the diary.
func (x diary) follow(t *testing.T, d impl.Disk, a impl.Act) (impl.Disk, diary, int64) {
	t.Helper()
	next, code := impl.StoreDo(d, a)
	if want, wantCode := plainStore(d, a); code != wantCode || !sameDisk(next, want) {
		t.Fatalf("StoreDo of %v = %d instead of %d", a, code, wantCode)
	}
	if a.Kind == impl.AcCrash {
		return next, x.check(t, next), code
	}
	if a.Kind == impl.AcAdd && (code == impl.StOk || code == impl.StPower && a.Power > 0) {
		x.since = append(slices.Clone(x.since), a.C)
	}
	if len(next.Ops) == 0 {
		x = diary{saved: x.all()}
	}
	checkView(t, next, x.all())
	return next, x, code
}

func TestPromise12(t *testing.T) {
	r := rand.New(rand.NewSource(121))
	codes, torn, most := map[int64]int{}, 0, 0
	for range 150 {
		d, x := journal(t, 0), diary{}
		for range 5 + r.Intn(60) {
			var code int64
			if d, x, code = x.follow(t, d, randomAct(r, d)); code == impl.StTorn {
				torn++
			}
			codes[code]++
			most = max(most, len(x.all()))
		}
		checkRecovered(t, d, x.all())
	}
	if torn < 20 || most < 20 || codes[impl.StOk] < 2000 || codes[impl.StPower] < 200 {
		t.Errorf("the journals are too much alike: %v, %d commands", codes, most)
	}
}

// More operations than a disk keeps end a journal without Sync, but not one with it.
func TestFullJournal(t *testing.T) {
	d := journal(t, impl.MaxCmds)
	checkView(t, d, planCmds(60))
	if got := acted(t, d, addAct(planCmd(1), true), impl.StFull); !sameDisk(got, d) {
		t.Error("the disk is changed")
	}
	checkView(t, acted(t, d, crashAct(99, indexes(60)...), impl.StOk), planCmds(60))
	checkView(t, acted(t, d, crashAct(99, indexes(59)...), impl.StOk), planCmds(59))
	checkView(t, acted(t, d, crashAct(99), impl.StOk), nil)
	checkView(t, acted(t, impl.Sync(d), crashAct(99), impl.StOk), planCmds(60))
	d = acted(t, impl.Disk{}, newAct(), impl.StOk)
	long := loadCmd(strings.Repeat("x", impl.MaxLoad))
	count := 0
	for {
		next, code := impl.StoreDo(d, addAct(long, true))
		if code != impl.StOk {
			if code != impl.StFull || !sameDisk(next, d) {
				t.Errorf("the code is %d", code)
			}
			break
		}
		d, count = next, count+1
	}
	if count != 49 {
		t.Errorf("there are %d long commands", count)
	}
	checkView(t, d, slices.Repeat([]impl.Cmd{long}, 49))
}

func TestStoreViewCodes(t *testing.T) {
	for name, d := range badDisks() {
		if got, code := impl.StoreView(d); code != impl.StDisk || len(got) != 0 {
			t.Errorf("%s: StoreView = %v, %d", name, got, code)
		}
		if m, answers, code := impl.Recovered(d); code != impl.StDisk || len(answers) != 0 || !sameMachine(m, impl.Machine{}) {
			t.Errorf("%s: Recovered = %v, %v, %d", name, m, answers, code)
		}
		for _, list := range [][]impl.Act{nil, {}, {newAct()}, {crashAct(0), openAct()}} {
			if got, codes := impl.StorePlay(d, list); len(codes) != 0 || !sameDisk(got, impl.Disk{}) {
				t.Errorf("%s: StorePlay = %v, %v", name, got, codes)
			}
		}
	}
	for _, list := range [][]impl.File{nil, {}, files("log.new", goodLog(1)), files("LOG", goodLog(1)), files("log ", "", "lo", "")[:1], manyFiles(60, goodLog(1))} {
		d := still(list)
		if got, code := impl.StoreView(d); code != impl.StNone || len(got) != 0 {
			t.Errorf("StoreView of %v = %v, %d", list, got, code)
		}
		if m, answers, code := impl.Recovered(d); code != impl.StNone || len(answers) != 0 || !sameMachine(m, impl.Machine{}) {
			t.Errorf("Recovered of %v = %v, %v, %d", list, m, answers, code)
		}
	}
	// What is read is Live.
	d := done(t, logDisk(goodLog(1)), appendOp("log", entry(1, "plan 1 1")), removeOp("log"), appendOp("log", goodLog(3)))
	checkView(t, d, planCmds(3))
	if _, code := impl.StoreView(done(t, d, removeOp("log"))); code != impl.StNone {
		t.Errorf("StoreView = %d", code)
	}
	checkView(t, done(t, still(files("b", goodLog(2))), renameOp("b", "log")), planCmds(2))
}

func TestRecovered(t *testing.T) {
	list := cmds(t, "score 1", "load "+stageEns, "score 3 3 9 4", "plan 2 3", "class 103 3 9", "load x", "top 1 9 3 1")
	d := acted(t, impl.Disk{}, newAct(), impl.StOk)
	for i, c := range list {
		checkRecovered(t, d, list[:i])
		d = acted(t, d, addAct(c, i%2 == 0), impl.StOk)
	}
	checkRecovered(t, d, list)
	_, answers, _ := impl.Recovered(d)
	if got := answerText(answers[2]); got != "0 [116 116 102 116] [] 4" {
		t.Errorf("the answer is %s", got)
	}
	checkRecovered(t, done(t, d, appendOp("log", "x")), list)
	for name, x := range tornLogs() {
		t.Run(name, func(t *testing.T) { checkRecovered(t, logDisk(x.log), planCmds(x.count)) })
	}
	for name, log := range goodLogs(t) {
		want, _ := plainLog(log)
		t.Run(name, func(t *testing.T) { checkRecovered(t, logDisk(log), want) })
	}
}

func TestStorePlay(t *testing.T) {
	for name, d := range storeDisks(t) {
		if name == "bad" {
			continue
		}
		for _, list := range [][]impl.Act{nil, {}} {
			if got, codes := impl.StorePlay(d, list); len(codes) != 0 || !sameDisk(got, d) {
				t.Errorf("%s: StorePlay without actions = %v, %v", name, got, codes)
			}
		}
		list := storeActs()
		slices.Reverse(list)
		checkStorePlay(t, name, d, append(storeActs(), list...))
	}
	r := rand.New(rand.NewSource(122))
	for range 30 {
		var list []impl.Act
		d := journal(t, 3)
		for range 100 {
			a := randomAct(r, d)
			list = append(list, a)
			d, _ = plainStore(d, a)
		}
		checkStorePlay(t, "random", journal(t, 3), list)
	}
}

func checkStorePlay(t *testing.T, name string, d impl.Disk, list []impl.Act) {
	t.Helper()
	got, codes := impl.StorePlay(d, list)
	var wantCodes []int64
	want := d
	for _, a := range list {
		next, code := plainStore(want, a)
		want, wantCodes = next, append(wantCodes, code)
	}
	if !sameDisk(got, want) || !slices.Equal(codes, wantCodes) {
		t.Errorf("%s: StorePlay = %v instead of %v, and the disk: %v", name, codes, wantCodes, sameDisk(got, want))
	}
}

// guardAct is an action with spare capacity behind each of its lists.
func guardAct(a impl.Act) (guarded impl.Act, check func(t *testing.T)) {
	before := slices.Clone(a.Keep)
	keep := guard(a.Keep, 77)
	guarded = a
	var checkCmd func(t *testing.T)
	guarded.C, checkCmd = guardCmd(a.C)
	guarded.Keep = keep.list
	return guarded, func(t *testing.T) {
		t.Helper()
		checkCmd(t)
		keep.check(t, before, 77)
	}
}

func TestStoreArgumentsStay(t *testing.T) {
	for name, d := range storeDisks(t) {
		g, check := guardDisk(d)
		for _, a := range storeActs() {
			for _, power := range []int64{-1, 1, 3} {
				guarded, checkAct := guardAct(powered(a, power))
				checkNewDisk(t, g, func(d impl.Disk) impl.Disk {
					next, _ := impl.StoreDo(d, guarded)
					return next
				})
				checkNewDisk(t, g, func(d impl.Disk) impl.Disk {
					next, _ := impl.StorePlay(d, []impl.Act{guarded})
					return next
				})
				checkAct(t)
			}
		}
		checkNewDisk(t, g, func(d impl.Disk) impl.Disk {
			next, _ := impl.StorePlay(d, nil)
			return next
		})
		t.Run(name, check)
	}
}

func TestViewsAreNew(t *testing.T) {
	d := acted(t, acted(t, journal(t, 0), addAct(cmd(t, "load "+exampleEns), true), impl.StOk), addAct(cmd(t, "score 1,2 3,4"), false), impl.StOk)
	g, check := guardDisk(d)
	want, code := impl.StoreView(g)
	if code != impl.StOk || len(want) != 2 {
		t.Fatalf("StoreView = %v, %d", want, code)
	}
	got, _ := impl.StoreView(g)
	spoilList(got[1].Docs[0], 99)
	if !slices.Equal(got[1].Docs[1], []int64{3, 4}) {
		t.Error("the documents share memory")
	}
	spoilList(got[1].Docs, nil)
	spoilList(got, impl.Cmd{})
	checkView(t, g, want)
	m, answers, _ := impl.Recovered(g)
	wantMachine, wantAnswers := copyMachine(m), copyAnswers(answers)
	spoilPlay(m, answers)
	if m, answers, _ = impl.Recovered(g); !sameMachine(m, wantMachine) || !sameAnswers(answers, wantAnswers) {
		t.Error("two results of Recovered share memory")
	}
	list := []impl.Act{openAct(), {}, openAct()}
	_, codes := impl.StorePlay(g, list)
	spoilList(codes, 99)
	if _, codes = impl.StorePlay(g, list); !slices.Equal(codes, []int64{impl.StOk, impl.StForm, impl.StOk}) {
		t.Errorf("two results of StorePlay share memory: %v", codes)
	}
	check(t)
}
