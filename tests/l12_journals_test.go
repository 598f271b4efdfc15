package tests

import (
	"slices"
	"strconv"
	"strings"
	"testing"

	"loop.example/g00762/impl"
)

// entry is the frame of a command, given as a text, behind count others.
func entry(count int, text string) string {
	return plainFrame(strconv.Itoa(count) + " " + text)
}

// goodLog has so many plan commands, the first one with A 0.
func goodLog(count int) string {
	log := ""
	for i := range count {
		log += entry(i, "plan "+strconv.Itoa(i%100)+" 1")
	}
	return log
}

func planCmd(a int) impl.Cmd {
	return impl.Cmd{Kind: impl.CmPlan, A: int64(a), B: 1}
}

func planCmds(count int) []impl.Cmd {
	var list []impl.Cmd
	for i := range count {
		list = append(list, planCmd(i))
	}
	return list
}

func sameCmds(a, b []impl.Cmd) bool {
	return slices.EqualFunc(a, b, sameCmd)
}

func logDisk(log string) impl.Disk {
	return still(files("log", log))
}

func newAct() impl.Act {
	return impl.Act{Kind: impl.AcNew, Power: -1}
}

func addAct(c impl.Cmd, sync bool) impl.Act {
	return impl.Act{Kind: impl.AcAdd, C: c, Sync: sync, Power: -1}
}

func openAct() impl.Act {
	return impl.Act{Kind: impl.AcOpen, Power: -1}
}

func crashAct(torn int64, keep ...int64) impl.Act {
	return impl.Act{Kind: impl.AcCrash, Keep: keep, Torn: torn, Power: -1}
}

func powered(a impl.Act, power int64) impl.Act {
	a.Power = power
	return a
}

// acted performs an action that has this code.
func acted(t *testing.T, d impl.Disk, a impl.Act, want int64) impl.Disk {
	t.Helper()
	next, code := impl.StoreDo(d, a)
	if code != want || !impl.DiskOk(next) {
		t.Fatalf("StoreDo of Kind %d with Power %d = %d instead of %d", a.Kind, a.Power, code, want)
	}
	return next
}

// journal has so many commands that are not synchronized.
func journal(t *testing.T, count int) impl.Disk {
	t.Helper()
	d := acted(t, impl.Disk{}, newAct(), impl.StOk)
	for i := range count {
		d = acted(t, d, addAct(planCmd(i), false), impl.StOk)
	}
	return d
}

func checkView(t *testing.T, d impl.Disk, want []impl.Cmd) {
	t.Helper()
	if got, code := impl.StoreView(d); code != impl.StOk || !sameCmds(got, want) {
		t.Errorf("StoreView = %v, %d instead of %v", got, code, want)
	}
}

// plainLog returns the commands that count, and where their frames end.
func plainLog(log string) (list []impl.Cmd, end int) {
	for len(list) < 60 {
		datas, _ := plainTake(log[end:])
		if len(datas) == 0 {
			break
		}
		number, text, _ := strings.Cut(datas[0], " ")
		c, ok := impl.ReadCmd(text)
		if !ok || number != strconv.Itoa(len(list)) {
			break
		}
		list, end = append(list, c), end+8+len(datas[0])
	}
	return list, end
}

// syncStep is no operation.
var syncStep = impl.DOp{}

// plainWalk performs steps until there is no power or one is rejected.
func plainWalk(d impl.Disk, power int64, steps ...impl.DOp) (impl.Disk, int64) {
	now := d
	for i, op := range steps {
		if int64(i) == power {
			return now, impl.StPower
		}
		if op == syncStep {
			now = still(now.Live)
			continue
		}
		next, code := plainDo(now, op)
		if code != impl.DkOk {
			return d, impl.StFull
		}
		now = next
	}
	return now, impl.StOk
}

func plainStore(d impl.Disk, a impl.Act) (impl.Disk, int64) {
	if !plainDiskOk(d) {
		return impl.Disk{}, impl.StDisk
	}
	if a.Kind < 1 || a.Kind > 4 {
		return d, impl.StForm
	}
	if a.Kind == impl.AcCrash {
		after, ok := plainCrash(d, a.Keep, a.Torn)
		if !ok {
			return d, impl.StForm
		}
		d = after
	}
	all := plainOf(d.Live)
	log, found := all["log"]
	list, end := plainLog(log)
	switch {
	case a.Kind == impl.AcNew && found:
		return d, impl.StForm
	case a.Kind == impl.AcNew:
		return plainWalk(d, a.Power, appendOp("log", ""), syncStep)
	case !found:
		return d, impl.StNone
	case a.Kind == impl.AcAdd && !impl.CmdOk(a.C):
		return d, impl.StForm
	case a.Kind == impl.AcAdd && end < len(log):
		return d, impl.StTorn
	case a.Kind == impl.AcAdd && len(list) == 60:
		return d, impl.StFull
	case a.Kind == impl.AcAdd:
		steps := []impl.DOp{appendOp("log", entry(len(list), impl.CmdText(a.C)))}
		if a.Sync {
			steps = append(steps, syncStep)
		}
		return plainWalk(d, a.Power, steps...)
	case end == len(log):
		return d, impl.StOk
	}
	steps := []impl.DOp{appendOp("log.new", log[:end]), syncStep, renameOp("log.new", "log"), syncStep}
	if _, old := all["log.new"]; old {
		steps = append([]impl.DOp{removeOp("log.new")}, steps...)
	}
	return plainWalk(d, a.Power, steps...)
}

// goodLogs are complete.
func goodLogs(t *testing.T) map[string]string {
	loads := ""
	for i := range 49 {
		loads += entry(i, "load "+strings.Repeat("x", impl.MaxLoad))
	}
	return map[string]string{
		"empty":       "",
		"one command": goodLog(1),
		"two":         goodLog(2),
		"eleven":      goodLog(11),
		"59 commands": goodLog(59),
		"60 commands": goodLog(60),
		"equal ones":  entry(0, "score 1") + entry(1, "score 1") + entry(2, "score 1"),
		"all kinds":   entry(0, "load "+stageEns) + entry(1, "plan 2 1") + entry(2, "score 3 - -,2") + entry(3, "class -7 1") + entry(4, "top 2 1 2") + entry(5, "load ") + entry(6, "score"),
		"long loads":  loads,
		"odd bytes":   entry(0, "load \x00\xff\r ") + entry(1, "load "+frames("abc")) + entry(2, "load \x00\x00\x00\x00"),
	}
}

// badEntries are data of frames that do not count as the first one of a log.
func badEntries() []string {
	list := []string{
		"", "0", "0 ", " ", "x", "plan 1 1", " plan 1 1", " 0 plan 1 1", "0  plan 1 1", "0\tplan 1 1", "0plan 1 1", "0\nplan 1 1", "0,plan 1 1", "0 plan 1 1 ", "0 plan 1 1\n",
		"00 plan 1 1", "000 plan 1 1", "+0 plan 1 1", "-0 plan 1 1", "0x0 plan 1 1", "0.0 plan 1 1", "\u0660 plan 1 1", "0 0 plan 1 1", "0 1 plan 1 1", "\x000 plan 1 1",
		"1 plan 1 1", "2 plan 1 1", "-1 plan 1 1", "10 plan 1 1", "18446744073709551616 plan 1 1", "o plan 1 1", "zero plan 1 1",
		"0 plan 1", "0 plan 1 1 1", "0 plan 100 1", "0 plan -1 1", "0 plan 01 1", "0 Plan 1 1", "0 fly 1", "0 load", "0 load a\nb", "0 load " + strings.Repeat("x", impl.MaxLoad+1),
		"0 score 1,", "0 score  1", "0 score" + strings.Repeat(" 1", impl.MaxDocs+1), "0 class", "0 class x", "0 top 21", "0 top", "0 cost", "0 region 1",
		"\x00plan 1 1", "0\x00plan 1 1", strings.Repeat("0", 100000), "0 " + strings.Repeat(" ", 1000), frames("0 plan 1 1"),
	}
	for _, x := range badNumbers() {
		list = append(list, x+" plan 1 1")
	}
	return list
}

// tornLog is a log with the number of commands that count.
type tornLog struct {
	log   string
	count int
}

// tornLogs are not complete. Their commands that count are those of planCmds.
func tornLogs() map[string]tornLog {
	two, next := goodLog(2), entry(2, "plan 2 1")
	list := map[string]tornLog{
		"one byte":             {"x", 0},
		"a byte 0":             {"\x00", 0},
		"a byte behind":        {two + "x", 2},
		"a line feed behind":   {two + "\n", 2},
		"an empty frame":       {plainFrame(""), 0},
		"an empty frame later": {two + plainFrame(""), 2},
		"another first number": {entry(1, "plan 1 1"), 0},
		"a number too great":   {two + entry(3, "plan 2 1"), 2},
		"a number too small":   {two + entry(1, "plan 2 1"), 2},
		"the same number":      {goodLog(1) + goodLog(1), 1},
		"the same log again":   {two + two, 2},
		"one is missing":       {two + entry(3, "plan 3 1") + entry(4, "plan 4 1"), 2},
		"numbers from behind":  {entry(2, "plan 2 1") + entry(1, "plan 1 1") + entry(0, "plan 0 1"), 0},
		"a number as 02":       {two + plainFrame("02 plan 2 1") + entry(3, "plan 3 1"), 2},
		"a number as 010":      {goodLog(10) + plainFrame("010 plan 2 1"), 10},
		"a number as 08":       {goodLog(8) + plainFrame("08 plan 2 1"), 8},
		"no valid command":     {two + entry(2, "plan 2 100") + entry(3, "plan 3 1"), 2},
		"a byte between":       {two + "x" + next, 2},
		"a byte before":        {"x" + two, 0},
		"a wrong CRC":          {two + next[:4] + "\x00\x00\x00\x00" + next[8:] + entry(3, "plan 3 1"), 2},
		"a reversed CRC":       {two + next[:4] + next[7:8] + next[6:7] + next[5:6] + next[4:5] + next[8:], 2},
		"a length too great":   {two + "\x00\x00\x00\x0b" + next[4:], 2},
		"a length too small":   {two + "\x00\x00\x00\x09" + next[4:], 2},
		"a length far off":     {two + "\xff\xff\xff\xff" + next[4:], 2},
		"61 commands":          {goodLog(61), 60},
		"70 commands":          {goodLog(70), 60},
		"60 and a byte":        {goodLog(60) + "x", 60},
		"60 and a bad frame":   {goodLog(60) + plainFrame("x"), 60},
		"60 and the same":      {goodLog(60) + goodLog(60), 60},
		"60 without the first": {goodLog(60)[len(goodLog(1)):], 0},
		"many empty frames":    {strings.Repeat("\x00", 200000), 0},
		"a long command":       {two + entry(2, "load "+strings.Repeat("x", impl.MaxLoad+1)), 2},
		"a frame too long":     {two + plainFrame("2 load "+strings.Repeat("x", 100001-7)), 2},
		"the most of a frame":  {two + plainFrame("2 load "+strings.Repeat("x", 100000-7)), 2},
	}
	for size := 1; size < len(next); size++ {
		list["the first bytes, "+strconv.Itoa(size)] = tornLog{two + next[:size], 2}
		list["the last bytes, "+strconv.Itoa(size)] = tornLog{two + next[size:], 2}
	}
	for i, data := range badEntries() {
		list["bad data at first, "+strconv.Itoa(i)] = tornLog{plainFrame(data), 0}
		list["bad data before others, "+strconv.Itoa(i)] = tornLog{plainFrame(data) + goodLog(3), 0}
		list["bad data and its followers, "+strconv.Itoa(i)] = tornLog{plainFrame(data) + entry(1, "score 1"), 0}
	}
	return list
}

func TestJournalConstants(t *testing.T) {
	if !slices.Equal([]int64{impl.StOk, impl.StDisk, impl.StNone, impl.StForm, impl.StFull, impl.StPower, impl.StTorn}, []int64{0, 1, 2, 3, 4, 5, 6}) {
		t.Error("a code is different")
	}
	if !slices.Equal([]int64{impl.AcNew, impl.AcAdd, impl.AcOpen, impl.AcCrash}, []int64{1, 2, 3, 4}) {
		t.Error("a Kind is different")
	}
}

func TestJournalExamples(t *testing.T) {
	d := journal(t, 3)
	checkView(t, d, planCmds(3))
	checkView(t, acted(t, d, crashAct(99, 0, 1), impl.StOk), planCmds(2))
	checkView(t, acted(t, d, crashAct(99, 1), impl.StOk), nil)
	checkView(t, acted(t, d, crashAct(9, 0, 1, 2), impl.StOk), planCmds(2))
	acted(t, d, newAct(), impl.StForm)
	acted(t, impl.Disk{}, openAct(), impl.StNone)
	if got, codes := impl.StorePlay(d, []impl.Act{openAct(), {Kind: 9, Power: -1}}); !sameDisk(got, d) || !slices.Equal(codes, []int64{impl.StOk, impl.StForm}) {
		t.Errorf("StorePlay = %v", codes)
	}
	if m, answers, code := impl.Recovered(impl.Disk{}); code != impl.StNone || len(answers) != 0 || !sameMachine(m, impl.Machine{}) {
		t.Errorf("Recovered = %v, %v, %d", m, answers, code)
	}
}

func TestGoodLogs(t *testing.T) {
	for name, log := range goodLogs(t) {
		d := logDisk(log)
		want, end := plainLog(log)
		if end != len(log) {
			t.Fatalf("%s: the log is not complete", name)
		}
		checkView(t, d, want)
		if got := acted(t, d, powered(openAct(), 0), impl.StOk); !sameDisk(got, d) {
			t.Errorf("%s: AcOpen changes the disk", name)
		}
		if got := acted(t, d, powered(crashAct(0), 0), impl.StOk); !sameDisk(got, d) {
			t.Errorf("%s: AcCrash changes the disk", name)
		}
		if len(want) == impl.MaxCmds {
			if got := acted(t, d, addAct(planCmd(7), true), impl.StFull); !sameDisk(got, d) {
				t.Errorf("%s: AcAdd changes the disk", name)
			}
			continue
		}
		next := acted(t, d, addAct(planCmd(7), false), impl.StOk)
		frame := entry(len(want), "plan 7 1")
		if !sameDisk(next, impl.Disk{Live: files("log", log+frame), Safe: d.Safe, Ops: []impl.DOp{appendOp("log", frame)}}) {
			t.Errorf("%s: AcAdd makes another disk", name)
		}
		checkView(t, next, append(want, planCmd(7)))
		if next = acted(t, d, addAct(planCmd(7), true), impl.StOk); !sameDisk(next, logDisk(log+frame)) {
			t.Errorf("%s: AcAdd with Sync makes another disk", name)
		}
	}
}

func TestTornLogs(t *testing.T) {
	for name, x := range tornLogs() {
		if len(x.log) > impl.MaxBytes {
			t.Fatalf("%s: there are %d bytes", name, len(x.log))
		}
		d := logDisk(x.log)
		checkView(t, d, planCmds(x.count))
		for _, c := range []impl.Cmd{planCmd(1), loadCmd("x")} {
			if got := acted(t, d, powered(addAct(c, true), 0), impl.StTorn); !sameDisk(got, d) {
				t.Errorf("%s: AcAdd changes the disk", name)
			}
		}
		for _, a := range []impl.Act{openAct(), crashAct(0), powered(openAct(), 4)} {
			if len(x.log) < 190000 {
				if got := acted(t, d, a, impl.StOk); !sameDisk(got, logDisk(goodLog(x.count))) {
					t.Errorf("%s: Kind %d makes another disk", name, a.Kind)
				}
			}
		}
	}
}

// A file that the log is written to is the log only when it is complete.
func TestOpenSteps(t *testing.T) {
	part, log := goodLog(2), goodLog(2)+"x"
	write, rename := appendOp("log.new", part), renameOp("log.new", "log")
	repaired := still(files("a", "1", "log", part))
	for _, x := range []struct {
		safe  []impl.File
		steps []impl.Disk
	}{
		{files("a", "1", "log", log), []impl.Disk{
			{Live: files("a", "1", "log", log, "log.new", part), Ops: []impl.DOp{write}},
			still(files("a", "1", "log", log, "log.new", part)),
			{Live: repaired.Live, Safe: files("a", "1", "log", log, "log.new", part), Ops: []impl.DOp{rename}},
			repaired,
		}},
		{files("a", "1", "log", log, "log.new", "old"), []impl.Disk{
			{Live: files("a", "1", "log", log), Ops: []impl.DOp{removeOp("log.new")}},
			{Live: files("a", "1", "log", log, "log.new", part), Ops: []impl.DOp{removeOp("log.new"), write}},
			still(files("a", "1", "log", log, "log.new", part)),
			{Live: repaired.Live, Safe: files("a", "1", "log", log, "log.new", part), Ops: []impl.DOp{rename}},
			repaired,
		}},
	} {
		d := still(x.safe)
		for _, a := range []impl.Act{openAct(), crashAct(3)} {
			if got := acted(t, d, powered(a, 0), impl.StPower); !sameDisk(got, d) {
				t.Errorf("Kind %d with Power 0 changes the disk to %v", a.Kind, got)
			}
			for i, want := range x.steps {
				if want.Safe == nil {
					want.Safe = d.Safe
				}
				code := int64(impl.StPower)
				if i == len(x.steps)-1 {
					code = impl.StOk
				}
				got := acted(t, d, powered(a, int64(i+1)), code)
				if !sameDisk(got, want) {
					t.Errorf("Kind %d with Power %d: the disk is %v instead of %v", a.Kind, i+1, got, want)
				}
				checkView(t, got, planCmds(2))
			}
			for _, power := range []int64{-1, -2, minInt, 6, 7, maxInt} {
				if got := acted(t, d, powered(a, power), impl.StOk); !sameDisk(got, repaired) {
					t.Errorf("Kind %d with Power %d: the disk is %v", a.Kind, power, got)
				}
			}
		}
	}
}

func TestNewSteps(t *testing.T) {
	for _, list := range [][]impl.File{nil, files("a", "1"), files("log.new", "x"), files("LOG", "", "lo", "", "log ", ""), manyFiles(59, "x"), files("a", fullData)} {
		d := still(list)
		all := plainOf(list)
		all["log"] = ""
		if got := acted(t, d, powered(newAct(), 0), impl.StPower); !sameDisk(got, d) {
			t.Errorf("Power 0: the disk is %v", got)
		}
		if got := acted(t, d, powered(newAct(), 1), impl.StPower); !sameDisk(got, impl.Disk{Live: all.list(), Safe: list, Ops: []impl.DOp{appendOp("log", "")}}) {
			t.Errorf("Power 1: the disk is %v", got)
		}
		for _, power := range []int64{-1, 2, 3, minInt, maxInt} {
			got := acted(t, d, powered(newAct(), power), impl.StOk)
			if !sameDisk(got, still(all.list())) {
				t.Errorf("Power %d: the disk is %v", power, got)
			}
			checkView(t, got, nil)
		}
		if _, code := impl.StoreView(d); code != impl.StNone {
			t.Errorf("StoreView = %d", code)
		}
	}
}

func TestAddSteps(t *testing.T) {
	d := journal(t, 2)
	frame := appendOp("log", entry(2, "plan 9 1"))
	added := done(t, d, frame)
	for _, x := range []struct {
		power int64
		sync  bool
		want  impl.Disk
		code  int64
	}{
		{0, false, d, impl.StPower}, {0, true, d, impl.StPower}, {1, false, added, impl.StOk}, {1, true, added, impl.StPower},
		{2, false, added, impl.StOk}, {2, true, impl.Sync(added), impl.StOk}, {3, true, impl.Sync(added), impl.StOk},
		{-1, false, added, impl.StOk}, {-1, true, impl.Sync(added), impl.StOk}, {minInt, true, impl.Sync(added), impl.StOk}, {maxInt, true, impl.Sync(added), impl.StOk},
	} {
		if got := acted(t, d, powered(addAct(planCmd(9), x.sync), x.power), x.code); !sameDisk(got, x.want) {
			t.Errorf("Power %d and Sync %v: the disk is %v", x.power, x.sync, got)
		}
	}
}

// Each valid command is recovered.
func TestAddEachCommand(t *testing.T) {
	for _, c := range goodCmds() {
		d := acted(t, journal(t, 1), addAct(c.c, true), impl.StOk)
		checkView(t, d, []impl.Cmd{planCmd(0), c.c})
		if data, _ := impl.ReadFile(d, "log"); data != goodLog(1)+entry(1, c.text) {
			t.Errorf("the log of %q is %.100q", c.text, data)
		}
	}
	for name, c := range badCmds() {
		d := journal(t, 1)
		if got := acted(t, d, addAct(c, true), impl.StForm); !sameDisk(got, d) {
			t.Errorf("%s: the disk is %v", name, got)
		}
	}
}

// checkCodes performs an action with different Powers, and checks that it is
// rejected with the same disk.
func checkCodes(t *testing.T, name string, d impl.Disk, a impl.Act, want int64, disk impl.Disk) {
	t.Helper()
	for _, power := range []int64{-1, 0, 1, 5} {
		if got, code := impl.StoreDo(d, powered(a, power)); code != want || !sameDisk(got, disk) {
			t.Errorf("%s: Kind %d with Power %d = %d instead of %d, and the disk: %v", name, a.Kind, power, code, want, sameDisk(got, disk))
		}
	}
}

// The first code of several that apply: StDisk, StForm of the Kind, StNone,
// StForm of the command, StTorn, StFull.
func TestOrderOfStoreCodes(t *testing.T) {
	bad := impl.Cmd{Kind: impl.CmPlan, A: -1}
	full := impl.MaxOps
	spent := func(d impl.Disk) impl.Disk {
		return done(t, d, slices.Repeat([]impl.DOp{renameOp("a", "a")}, full-len(d.Ops))...)
	}
	disks := map[string]impl.Disk{
		"no file": {}, "no log": still(files("log.new", goodLog(2), "x", "")), "no log, no operations": spent(still(files("a", ""))),
		"good": logDisk(goodLog(2)), "torn": logDisk(goodLog(2) + "x"), "full": logDisk(goodLog(60)), "full and torn": logDisk(goodLog(61)),
		"torn, no operations": spent(still(files("a", "", "log", "x"))), "full, no operations": spent(still(files("a", "", "log", goodLog(60)))),
	}
	for name, d := range disks {
		for _, kind := range []int64{0, 5, 9, -1, 1<<32 + 1, minInt, maxInt} {
			checkCodes(t, name, d, impl.Act{Kind: kind, C: bad, Keep: []int64{7}, Torn: -1}, impl.StForm, d)
			checkCodes(t, name, d, impl.Act{Kind: kind, C: planCmd(1), Sync: true}, impl.StForm, d)
		}
		checkCodes(t, name, d, crashAct(-1), impl.StForm, d)
		checkCodes(t, name, d, crashAct(0, int64(len(d.Ops))), impl.StForm, d)
		checkCodes(t, name, d, crashAct(0, -1), impl.StForm, d)
	}
	for name, want := range map[string]int64{
		"no file": impl.StNone, "no log": impl.StNone, "no log, no operations": impl.StNone, "good": impl.StForm, "torn": impl.StForm, "full": impl.StForm,
		"full and torn": impl.StForm, "torn, no operations": impl.StForm, "full, no operations": impl.StForm,
	} {
		checkCodes(t, name, disks[name], addAct(bad, true), want, disks[name])
		if want == impl.StForm {
			checkCodes(t, name, disks[name], newAct(), impl.StForm, disks[name])
			continue
		}
		checkCodes(t, name, disks[name], addAct(planCmd(1), true), impl.StNone, disks[name])
		checkCodes(t, name, disks[name], openAct(), impl.StNone, disks[name])
		checkCodes(t, name, disks[name], crashAct(3), impl.StNone, still(disks[name].Safe))
	}
	for name, want := range map[string]int64{
		"torn": impl.StTorn, "full": impl.StFull, "full and torn": impl.StTorn, "torn, no operations": impl.StTorn, "full, no operations": impl.StFull,
	} {
		checkCodes(t, name, disks[name], addAct(planCmd(1), true), want, disks[name])
	}
	for name, d := range badDisks() {
		for _, a := range []impl.Act{{}, {Kind: 9}, newAct(), addAct(planCmd(1), true), addAct(bad, false), openAct(), crashAct(0), crashAct(-1), crashAct(0, 0)} {
			checkCodes(t, name, d, a, impl.StDisk, impl.Disk{})
		}
	}
}

// A step that is rejected leaves nothing of those before it, and costs power.
func TestRejectedSteps(t *testing.T) {
	ready := func(left int, list []impl.File) impl.Disk {
		return done(t, still(list), slices.Repeat([]impl.DOp{renameOp("a", "a")}, impl.MaxOps-left)...)
	}
	torn := goodLog(2) + "x"
	heavy := strings.Repeat("z", impl.MaxBytes-2*len(goodLog(2))-1)
	crowd := append([]impl.File{{Name: "a"}, {Name: "log", Data: torn}}, manyFiles(59, "")...)
	sortFiles(crowd)
	for i, x := range []struct {
		d     impl.Disk
		a     impl.Act
		steps int64 // before the one that is rejected; -1 if none is
	}{
		{ready(0, files("a", "")), newAct(), 0},
		{ready(1, files("a", "")), newAct(), -1},
		{still(manyFiles(60, "")), newAct(), 0},
		{still(manyFiles(59, "")), newAct(), -1},
		{ready(0, files("a", "", "log", "")), addAct(planCmd(1), true), 0},
		{ready(0, files("a", "", "log", "")), addAct(planCmd(1), false), 0},
		{ready(1, files("a", "", "log", "")), addAct(planCmd(1), true), -1},
		{still(files("a", fullData[18:], "log", "")), addAct(planCmd(1), true), -1},
		{still(files("a", fullData[17:], "log", "")), addAct(planCmd(1), true), 0},
		{still(files("log", "", "z", fullData)), addAct(loadCmd(""), false), 0},
		{ready(0, files("a", "", "log", torn)), openAct(), 0},
		{ready(1, files("a", "", "log", torn)), openAct(), -1},
		{ready(0, files("a", "", "log", torn, "log.new", "")), openAct(), 0},
		{ready(1, files("a", "", "log", torn, "log.new", "")), openAct(), 1},
		{ready(2, files("a", "", "log", torn, "log.new", "")), openAct(), -1},
		{still(crowd[1:]), openAct(), 0},
		{still(crowd[2:]), openAct(), -1},
		{still(files("log", torn, "z", heavy[1:])), openAct(), -1},
		{still(files("log", torn, "z", heavy)), openAct(), -1},
		{still(files("log", torn, "z", heavy+"z")), openAct(), 0},
		{still(files("log", torn, "log.new", "x", "z", heavy[1:])), openAct(), -1},
		{still(files("log", "x", "z", fullData[1:])), openAct(), -1},
		{still(crowd[1:]), crashAct(0), 0},
		{still(files("log", torn, "z", heavy+"z")), crashAct(0), 0},
		{done(t, still(files("log", torn, "z", heavy)), appendOp("z", "z")), crashAct(0, 0), -1},
		{done(t, still(files("log", torn, "z", heavy)), appendOp("z", "z")), crashAct(1, 0), 0},
		{done(t, still(crowd[2:]), appendOp("none", "")), crashAct(1, 0), 0},
	} {
		for _, power := range []int64{-1, 0, 1, 2, 3, 4, 5, 6, maxInt, minInt} {
			a := powered(x.a, power)
			got, code := impl.StoreDo(x.d, a)
			want, wantCode := plainStore(x.d, a)
			if code != wantCode || !sameDisk(got, want) {
				t.Errorf("case %d with Power %d: %d instead of %d", i, power, code, wantCode)
			}
			if rejected := x.steps >= 0 && (power < 0 || power > x.steps); rejected != (code == impl.StFull) {
				t.Errorf("case %d with Power %d: the code is %d", i, power, code)
			}
			if code == impl.StFull && a.Kind != impl.AcCrash && !sameDisk(got, x.d) {
				t.Errorf("case %d with Power %d changes the disk", i, power)
			}
		}
	}
}

func sortFiles(list []impl.File) {
	slices.SortFunc(list, func(a, b impl.File) int { return strings.Compare(a.Name, b.Name) })
}

// A loss of power can leave no log, or a log.new.
func TestCrashWithoutLog(t *testing.T) {
	unsaved := acted(t, impl.Disk{}, powered(newAct(), 1), impl.StPower)
	for _, power := range []int64{-1, 0, 3} {
		if got := acted(t, unsaved, powered(crashAct(0), power), impl.StNone); !sameDisk(got, impl.Disk{}) {
			t.Errorf("the disk is %v", got)
		}
		if got := acted(t, unsaved, powered(crashAct(0, 0), power), impl.StOk); !sameDisk(got, logDisk("")) {
			t.Errorf("the disk is %v", got)
		}
	}
	moved := done(t, logDisk(goodLog(2)), renameOp("log", "log.new"), appendOp("b", "xyz"))
	for _, x := range []struct {
		a    impl.Act
		want []impl.File
		code int64
	}{
		{crashAct(2, 0, 1), files("b", "xy", "log.new", goodLog(2)), impl.StNone},
		{crashAct(2, 0), files("log.new", goodLog(2)), impl.StNone},
		{crashAct(2, 1), files("b", "xy", "log", goodLog(2)), impl.StOk},
		{crashAct(2), files("log", goodLog(2)), impl.StOk},
	} {
		if got := acted(t, moved, x.a, x.code); !sameDisk(got, still(x.want)) {
			t.Errorf("Keep %v: the disk is %v", x.a.Keep, got)
		}
	}
}

// What another Kind needs has no effect.
func TestOtherFieldsOfActs(t *testing.T) {
	bad := impl.Cmd{Kind: 99}
	torn := logDisk(goodLog(1) + "x")
	for _, x := range []struct {
		d    impl.Disk
		a, b impl.Act
	}{
		{impl.Disk{}, newAct(), impl.Act{Kind: impl.AcNew, C: bad, Sync: true, Power: -1, Keep: []int64{5, 5}, Torn: -3}},
		{journal(t, 2), addAct(planCmd(1), false), impl.Act{Kind: impl.AcAdd, C: planCmd(1), Power: -7, Keep: []int64{-1}, Torn: minInt}},
		{torn, openAct(), impl.Act{Kind: impl.AcOpen, C: bad, Sync: true, Power: -1, Keep: []int64{9}, Torn: -1}},
		{journal(t, 3), crashAct(4, 0, 2), impl.Act{Kind: impl.AcCrash, C: bad, Sync: true, Power: -1, Keep: []int64{0, 2}, Torn: 4}},
	} {
		want := acted(t, x.d, x.a, impl.StOk)
		if got := acted(t, x.d, x.b, impl.StOk); !sameDisk(got, want) {
			t.Errorf("Kind %d: the disk is %v instead of %v", x.a.Kind, got, want)
		}
	}
}

// storeDisks are disks of all sorts, valid or not.
func storeDisks(t *testing.T) map[string]impl.Disk {
	list := map[string]impl.Disk{
		"three commands": journal(t, 3), "synchronized": impl.Sync(journal(t, 3)), "torn": logDisk(goodLog(2) + "x"),
		"torn, with log.new": still(files("log", goodLog(2)+"x", "log.new", "old")), "only log.new": still(files("log.new", goodLog(1))),
		"not saved":        acted(t, impl.Disk{}, powered(newAct(), 1), impl.StPower),
		"repaired in part": acted(t, logDisk(goodLog(2)+"x"), powered(openAct(), 1), impl.StPower),
		"before renaming":  acted(t, logDisk(goodLog(2)+"x"), powered(openAct(), 2), impl.StPower),
		"after renaming":   acted(t, logDisk(goodLog(2)+"x"), powered(openAct(), 3), impl.StPower),
		"full":             logDisk(goodLog(60)),
		"bad":              {Live: files("a", "")},
	}
	for name, d := range goodDisks(t) {
		if name != "a long history" {
			list["good: "+name] = d
		}
	}
	return list
}

// storeActs are actions of all Kinds, valid or not.
func storeActs() []impl.Act {
	return []impl.Act{
		{}, {Kind: 9}, newAct(), openAct(), addAct(planCmd(1), false), addAct(planCmd(1), true), addAct(impl.Cmd{}, true),
		addAct(impl.Cmd{Kind: impl.CmScore, Docs: [][]int64{{1, 2}, {3}}}, true), addAct(loadCmd(""), true),
		crashAct(0), crashAct(99), crashAct(0, 0), crashAct(1, 0), crashAct(9, 0, 1), crashAct(99, 0, 1), crashAct(99, 1), crashAct(12, 0, 1, 2), crashAct(99, 0, 1, 2),
		crashAct(0, 1, 0), crashAct(0, 0, 0), crashAct(-1, 0), crashAct(0, -1), crashAct(0, 99),
	}
}

func TestAllActions(t *testing.T) {
	codes := map[int64]int{}
	for name, d := range storeDisks(t) {
		for _, a := range storeActs() {
			for _, power := range []int64{-1, 0, 1, 2, 3, 4, 5, 6, -2, minInt, maxInt} {
				a.Power = power
				got, code := impl.StoreDo(d, a)
				if want, wantCode := plainStore(d, a); code != wantCode || !sameDisk(got, want) {
					t.Errorf("%s: Kind %d with Power %d = %d instead of %d", name, a.Kind, power, code, wantCode)
				}
				if impl.DiskOk(got) != (name != "bad" || code == impl.StDisk) {
					t.Errorf("%s: Kind %d makes a disk that is not valid", name, a.Kind)
				}
				codes[code]++
			}
		}
	}
	if len(codes) != 7 {
		t.Errorf("the actions are too much alike: %v", codes)
	}
}
