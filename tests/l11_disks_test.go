package tests

import (
	"maps"
	"math/rand"
	"slices"
	"strconv"
	"strings"
	"testing"

	"loop.example/g00762/impl"
)

func appendOp(name, data string) impl.DOp {
	return impl.DOp{Kind: impl.DkAppend, Name: name, Data: data}
}

func renameOp(name, to string) impl.DOp {
	return impl.DOp{Kind: impl.DkRename, Name: name, To: to}
}

func removeOp(name string) impl.DOp {
	return impl.DOp{Kind: impl.DkRemove, Name: name}
}

// files are given by names and data in turn.
func files(words ...string) []impl.File {
	var list []impl.File
	for i := 0; i < len(words); i += 2 {
		list = append(list, impl.File{Name: words[i], Data: words[i+1]})
	}
	return list
}

// manyFiles have names of two digits.
func manyFiles(count int, data string) []impl.File {
	var list []impl.File
	for i := range count {
		list = append(list, impl.File{Name: strconv.Itoa(10 + i), Data: data})
	}
	return list
}

// still is a disk without operations.
func still(list []impl.File) impl.Disk {
	return impl.Disk{Live: slices.Clone(list), Safe: slices.Clone(list)}
}

// done performs operations that are not rejected.
func done(t *testing.T, d impl.Disk, ops ...impl.DOp) impl.Disk {
	t.Helper()
	for _, op := range ops {
		next, code := impl.Do(d, op)
		if code != impl.DkOk {
			t.Fatalf("Do of %v is rejected with the code %d", op, code)
		}
		d = next
	}
	return d
}

func copyDisk(d impl.Disk) impl.Disk {
	return impl.Disk{Live: slices.Clone(d.Live), Safe: slices.Clone(d.Safe), Ops: slices.Clone(d.Ops)}
}

func sameDisk(a, b impl.Disk) bool {
	return slices.Equal(a.Live, b.Live) && slices.Equal(a.Safe, b.Safe) && slices.Equal(a.Ops, b.Ops)
}

// diskSpoilers write to all memory of one of the lists of a disk at a time.
func diskSpoilers() map[string]func(d *impl.Disk) {
	return map[string]func(d *impl.Disk){
		"Live": func(d *impl.Disk) { spoilList(d.Live, impl.File{Name: "spoilt"}) },
		"Safe": func(d *impl.Disk) { spoilList(d.Safe, impl.File{Name: "spoilt"}) },
		"Ops":  func(d *impl.Disk) { spoilList(d.Ops, removeOp("spoilt")) },
	}
}

// checkNewDisk checks that a call returns lists that share no memory with each
// other or with its argument.
func checkNewDisk(t *testing.T, d impl.Disk, call func(d impl.Disk) impl.Disk) {
	t.Helper()
	before := copyDisk(d)
	want := copyDisk(call(d))
	for name, spoilOne := range diskSpoilers() {
		got := call(d)
		if !sameDisk(got, want) {
			t.Errorf("equal calls of %v return %v and %v", before, want, got)
		}
		spoilt := copyDisk(got)
		spoilOne(&got)
		spoilOne(&spoilt)
		if !sameDisk(got, spoilt) {
			t.Errorf("%s of %v shares memory with another list", name, want)
		}
		if !sameDisk(d, before) {
			t.Fatalf("%s of the result shares memory with the argument %v", name, before)
		}
	}
}

// guardDisk is a disk with spare capacity behind each of its lists.
func guardDisk(d impl.Disk) (guarded impl.Disk, check func(t *testing.T)) {
	before := copyDisk(d)
	file, op := impl.File{Name: "behind", Data: "x"}, removeOp("behind")
	live, safe, ops := guard(d.Live, file), guard(d.Safe, file), guard(d.Ops, op)
	return impl.Disk{Live: live.list, Safe: safe.list, Ops: ops.list}, func(t *testing.T) {
		t.Helper()
		live.check(t, before.Live, file)
		safe.check(t, before.Safe, file)
		ops.check(t, before.Ops, op)
	}
}

// plainFiles is a list of files as a map from names to data.
type plainFiles map[string]string

func plainOf(list []impl.File) plainFiles {
	m := plainFiles{}
	for _, f := range list {
		m[f.Name] = f.Data
	}
	return m
}

func (m plainFiles) list() []impl.File {
	var list []impl.File
	for _, name := range slices.Sorted(maps.Keys(m)) {
		list = append(list, impl.File{Name: name, Data: m[name]})
	}
	return list
}

// perform returns DkNone and changes nothing if there is no such file.
func (m plainFiles) perform(op impl.DOp) int64 {
	data, found := m[op.Name]
	if op.Kind == impl.DkAppend {
		m[op.Name] = data + op.Data
		return impl.DkOk
	}
	if !found {
		return impl.DkNone
	}
	delete(m, op.Name)
	if op.Kind == impl.DkRename {
		m[op.To] = data
	}
	return impl.DkOk
}

func plainListOk(list []impl.File) bool {
	sum := 0
	for i, f := range list {
		if len(f.Name) < 1 || len(f.Name) > 100 || i > 0 && strings.Compare(list[i-1].Name, f.Name) >= 0 {
			return false
		}
		sum += len(f.Data)
	}
	return len(list) <= 60 && sum <= 200000
}

func plainFormOk(op impl.DOp) bool {
	named := func(s string) bool { return len(s) >= 1 && len(s) <= 100 }
	switch op.Kind {
	case 1:
		return named(op.Name) && op.To == ""
	case 2:
		return named(op.Name) && named(op.To) && op.Data == ""
	case 3:
		return named(op.Name) && op.To == "" && op.Data == ""
	}
	return false
}

func plainDiskOk(d impl.Disk) bool {
	if !plainListOk(d.Live) || !plainListOk(d.Safe) || len(d.Ops) > 200 {
		return false
	}
	m := plainOf(d.Safe)
	for _, op := range d.Ops {
		if !plainFormOk(op) || m.perform(op) != impl.DkOk || !plainListOk(m.list()) {
			return false
		}
	}
	return slices.Equal(m.list(), d.Live)
}

func plainDo(d impl.Disk, op impl.DOp) (impl.Disk, int64) {
	if !plainDiskOk(d) {
		return impl.Disk{}, impl.DkDisk
	}
	if !plainFormOk(op) {
		return d, impl.DkForm
	}
	m := plainOf(d.Live)
	if code := m.perform(op); code != impl.DkOk {
		return d, code
	}
	if len(d.Ops) == 200 || !plainListOk(m.list()) {
		return d, impl.DkFull
	}
	return impl.Disk{Live: m.list(), Safe: d.Safe, Ops: append(slices.Clone(d.Ops), op)}, impl.DkOk
}

func plainCrash(d impl.Disk, keep []int64, torn int64) (impl.Disk, bool) {
	for i, at := range keep {
		if at < 0 || at >= int64(len(d.Ops)) || i > 0 && keep[i-1] >= at {
			return impl.Disk{}, false
		}
	}
	if !plainDiskOk(d) || torn < 0 {
		return impl.Disk{}, false
	}
	m := plainOf(d.Safe)
	for i, at := range keep {
		op := d.Ops[at]
		if i+1 == len(keep) && op.Kind == impl.DkAppend && torn < int64(len(op.Data)) {
			op.Data = op.Data[:torn]
		}
		m.perform(op)
	}
	if !plainListOk(m.list()) {
		return impl.Disk{}, false
	}
	return still(m.list()), true
}

func plainReplace(d impl.Disk, name, data string) (impl.Disk, int64) {
	if !plainDiskOk(d) {
		return impl.Disk{}, impl.DkDisk
	}
	ops := []impl.DOp{appendOp(name+".new", data), renameOp(name+".new", name)}
	if _, found := plainOf(d.Live)[name+".new"]; found {
		ops = append([]impl.DOp{removeOp(name + ".new")}, ops...)
	}
	next := d
	for _, op := range ops {
		after, code := plainDo(next, op)
		if code != impl.DkOk {
			return d, code
		}
		next = after
	}
	return next, impl.DkOk
}

var (
	longName    = strings.Repeat("n", 100)
	tooLongName = longName + "n"
	fullData    = strings.Repeat("\x01", impl.MaxBytes)
)

// alternating are operations that write a file and remove it.
func alternating(count int, data string) []impl.DOp {
	return slices.Repeat([]impl.DOp{appendOp("f", data), removeOp("f")}, count)
}

// goodDisks are valid.
func goodDisks(t *testing.T) map[string]impl.Disk {
	log := still(files("log", "ab"))
	full := still(manyFiles(impl.MaxFiles, "x"))
	heavy := still(files("a", fullData[:100000], "b", fullData[:100000]))
	return map[string]impl.Disk{
		"zero":                   {},
		"empty lists":            {Live: []impl.File{}, Safe: []impl.File{}, Ops: []impl.DOp{}},
		"one file":               log,
		"the example":            done(t, log, appendOp("log", "cd"), appendOp("b", "x")),
		"an empty file":          still(files("log", "")),
		"nothing appended":       done(t, log, appendOp("log", ""), appendOp("c", "")),
		"a long name":            still(files(longName, "x")),
		"a short name":           still(files("\x00", "x")),
		"bytewise order":         still(files("\x00", "", " ", "", "A", "", "B", "", "a", "", "a\x00", "", "a ", "", "aa", "", "b", "", "\x7f", "", "\u00e9", "", "\xff", "")),
		"a renamed file":         done(t, log, renameOp("log", "a")),
		"renamed to itself":      done(t, log, renameOp("log", "log")),
		"a file replaced":        done(t, still(files("a", "1", "b", "2")), renameOp("a", "b")),
		"a file replaced again":  done(t, still(files("a", "1", "b", "2")), renameOp("b", "a"), appendOp("b", "3"), renameOp("a", "b")),
		"a file removed":         done(t, log, removeOp("log")),
		"removed and written":    done(t, log, removeOp("log"), appendOp("log", "z")),
		"most files":             full,
		"most files, once less":  done(t, full, removeOp("10"), appendOp("99", "y")),
		"most files, one joined": done(t, full, renameOp("10", "11"), appendOp("10", "")),
		"most bytes":             still(files("a", fullData)),
		"most bytes in two":      heavy,
		"most bytes, moved":      done(t, heavy, removeOp("a"), appendOp("c", fullData[:99999]), appendOp("b", "z")),
		"most bytes, renamed":    done(t, heavy, renameOp("a", "b"), appendOp("c", fullData[:100000])),
		"most operations":        done(t, log, alternating(impl.MaxOps/2, "x")...),
		"most operations but 1":  done(t, log, alternating(impl.MaxOps/2, "x")[:impl.MaxOps-1]...),
		"a long history":         done(t, impl.Disk{}, alternating(impl.MaxOps/2, fullData)[:20]...),
	}
}

// badLists are not valid lists of files.
func badLists() map[string][]impl.File {
	return map[string][]impl.File{
		"no name":           files("", "x"),
		"no name at first":  files("", "", "a", ""),
		"a long name":       files(tooLongName, ""),
		"a very long name":  files(strings.Repeat("n", 100000), ""),
		"equal names":       files("a", "", "a", ""),
		"equal files":       files("a", "1", "a", "1"),
		"falling names":     files("b", "", "a", ""),
		"falling at last":   files("a", "", "c", "", "b", ""),
		"not bytewise":      files("a", "", "B", ""),
		"shorter behind":    files("aa", "", "a", ""),
		"lengths first":     files("b", "", "aa", ""),
		"bytes as signed":   files("\x80", "", "a", ""),
		"too many files":    manyFiles(impl.MaxFiles+1, ""),
		"very many files":   slices.Repeat(files("a", ""), 100000),
		"too many bytes":    files("a", fullData+"x"),
		"too many together": files("a", fullData, "b", "x"),
		"too many in many":  manyFiles(impl.MaxFiles, fullData[:3334]),
	}
}

// badDisks are not valid.
func badDisks() map[string]impl.Disk {
	log := files("log", "ab")
	full := manyFiles(impl.MaxFiles, "x")
	list := map[string]impl.Disk{
		"only Live":                  {Live: log},
		"only Safe":                  {Safe: log},
		"other data":                 {Live: files("log", "ac"), Safe: log},
		"less data":                  {Live: files("log", "a"), Safe: log},
		"another name":               {Live: files("lo", "ab"), Safe: log},
		"one file more in Live":      {Live: files("log", "ab", "m", ""), Safe: log},
		"one file more in Safe":      {Live: log, Safe: files("log", "ab", "m", "")},
		"an operation not performed": {Live: log, Safe: log, Ops: []impl.DOp{appendOp("log", "c")}},
		"an operation too few":       {Live: files("log", "abcd"), Safe: log, Ops: []impl.DOp{appendOp("log", "c")}},
		"an operation too much":      {Live: files("log", "abc"), Safe: log, Ops: []impl.DOp{appendOp("log", "c"), appendOp("log", "d")}},
		"another order":              {Live: files("log", "abcd"), Safe: log, Ops: []impl.DOp{appendOp("log", "d"), appendOp("log", "c")}},
		"performed on Live":          {Live: files("log", "ab"), Safe: files("log", "abc"), Ops: []impl.DOp{appendOp("log", "c")}},
		"a file not renamed":         {Live: log, Safe: log, Ops: []impl.DOp{renameOp("log", "m")}},
		"a file not removed":         {Live: log, Safe: log, Ops: []impl.DOp{removeOp("log")}},
		"renamed without effect":     {Live: log, Safe: log, Ops: []impl.DOp{renameOp("m", "log")}},
		"removed without effect":     {Live: log, Safe: log, Ops: []impl.DOp{removeOp("m")}},
		"removed twice":              {Live: nil, Safe: log, Ops: []impl.DOp{removeOp("log"), removeOp("log")}},
		"renamed twice":              {Live: files("m", "ab"), Safe: log, Ops: []impl.DOp{renameOp("log", "m"), renameOp("log", "m")}},
		"removed, then written":      {Live: files("m", ""), Safe: nil, Ops: []impl.DOp{removeOp("m"), appendOp("m", "")}},
		"too many operations":        {Live: log, Safe: log, Ops: slices.Repeat([]impl.DOp{renameOp("log", "log")}, impl.MaxOps+1)},
		"very many operations":       {Live: log, Safe: log, Ops: slices.Repeat([]impl.DOp{appendOp("log", "")}, 100000)},
		"files too many for a while": {Live: full, Safe: full, Ops: []impl.DOp{appendOp("a", ""), removeOp("a")}},
		"files for a while, renamed": {Live: files("11", "x"), Safe: files("11", "x"), Ops: append(appendAll(manyFiles(61, "x")), renameOp("10", "11"))},
		"bytes too many for a while": {Live: files("a", fullData), Safe: files("a", fullData), Ops: []impl.DOp{appendOp("b", "x"), removeOp("b")}},
		"data too much for a while":  {Ops: []impl.DOp{appendOp("b", fullData+"x"), removeOp("b")}},
	}
	for name, op := range badForms() {
		list["Ops with "+name] = impl.Disk{Live: log, Safe: log, Ops: []impl.DOp{op}}
		list["Ops with "+name+", then removed"] = impl.Disk{Safe: log, Ops: []impl.DOp{op, removeOp("log")}}
	}
	for name, bad := range badLists() {
		list["both with "+name] = still(bad)
		list["Live with "+name] = impl.Disk{Live: bad, Safe: log}
		list["Safe with "+name] = impl.Disk{Live: log, Safe: bad}
		list["nothing and Live with "+name] = impl.Disk{Live: bad}
		list["nothing and Safe with "+name] = impl.Disk{Safe: bad}
		list["Live made with "+name] = impl.Disk{Live: bad, Ops: appendAll(bad)}
		list["Safe emptied with "+name] = impl.Disk{Safe: bad, Ops: removeAll(bad)}
	}
	return list
}

func appendAll(list []impl.File) []impl.DOp {
	var ops []impl.DOp
	for _, f := range list {
		ops = append(ops, appendOp(f.Name, f.Data))
	}
	return ops
}

func removeAll(list []impl.File) []impl.DOp {
	var ops []impl.DOp
	for _, f := range list {
		ops = append(ops, removeOp(f.Name))
	}
	return ops
}

// badForms are operations on the file log whose form is not valid.
func badForms() map[string]impl.DOp {
	list := map[string]impl.DOp{
		"append without Name":           appendOp("", "x"),
		"append of nothing, no Name":    appendOp("", ""),
		"append with long Name":         appendOp(tooLongName, "x"),
		"append with To":                {Kind: impl.DkAppend, Name: "log", To: "m", Data: "x"},
		"append with To log":            {Kind: impl.DkAppend, Name: "log", To: "log"},
		"append with long To":           {Kind: impl.DkAppend, Name: "log", To: tooLongName},
		"rename without Name":           renameOp("", "m"),
		"rename without To":             renameOp("log", ""),
		"rename without both":           renameOp("", ""),
		"rename with long Name":         renameOp(tooLongName, "m"),
		"rename with long To":           renameOp("log", tooLongName),
		"rename with Data":              {Kind: impl.DkRename, Name: "log", To: "m", Data: "x"},
		"rename to itself with Data":    {Kind: impl.DkRename, Name: "log", To: "log", Data: "\x00"},
		"remove without Name":           removeOp(""),
		"remove with long Name":         removeOp(tooLongName),
		"remove with To":                {Kind: impl.DkRemove, Name: "log", To: "m"},
		"remove with To log":            {Kind: impl.DkRemove, Name: "log", To: "log"},
		"remove with Data":              {Kind: impl.DkRemove, Name: "log", Data: "x"},
		"remove with To and Data":       {Kind: impl.DkRemove, Name: "log", To: "m", Data: "ab"},
		"zero":                          {},
		"append, a Name of many bytes":  appendOp(strings.Repeat("\u00e9", 50)+"n", ""),
		"append, a Name without end":    appendOp(strings.Repeat("n", 1000000), ""),
		"remove, a Name of line feeds":  removeOp(strings.Repeat("\n", 101)),
		"rename, a To of bytes 0":       renameOp("log", strings.Repeat("\x00", 101)),
		"rename to log with long Name":  renameOp(tooLongName, "log"),
		"rename with Data and no To":    {Kind: impl.DkRename, Name: "log", Data: "x"},
		"append with Data, To, no Name": {Kind: impl.DkAppend, To: "m", Data: "x"},
	}
	for _, kind := range []int64{0, 4, 5, -1, -2, 1<<32 + 1, minInt, maxInt} {
		name := "Kind " + strconv.FormatInt(kind, 10)
		list[name] = impl.DOp{Kind: kind, Name: "log"}
		list[name+" with To"] = impl.DOp{Kind: kind, Name: "log", To: "m"}
		list[name+" with Data"] = impl.DOp{Kind: kind, Name: "log", Data: "x"}
	}
	return list
}

func TestDiskConstants(t *testing.T) {
	if impl.MaxFiles != 60 || impl.MaxBytes != 200000 || impl.MaxOps != 200 {
		t.Error("a limit is different")
	}
	if !slices.Equal([]int64{impl.DkAppend, impl.DkRename, impl.DkRemove}, []int64{1, 2, 3}) {
		t.Error("a Kind is different")
	}
	if !slices.Equal([]int64{impl.DkOk, impl.DkDisk, impl.DkForm, impl.DkNone, impl.DkFull}, []int64{0, 1, 2, 3, 4}) {
		t.Error("a code is different")
	}
}

func TestDiskExamples(t *testing.T) {
	d := impl.Sync(done(t, impl.Disk{}, appendOp("log", "ab")))
	d = done(t, d, appendOp("log", "cd"), appendOp("b", "x"))
	want := impl.Disk{Live: files("b", "x", "log", "abcd"), Safe: files("log", "ab"), Ops: []impl.DOp{appendOp("log", "cd"), appendOp("b", "x")}}
	if !sameDisk(d, want) || !impl.DiskOk(d) {
		t.Errorf("the disk is %v", d)
	}
	if got, ok := impl.Crash(d, []int64{0}, 1); !ok || !sameDisk(got, still(files("log", "abc"))) {
		t.Errorf("Crash = %v, %v", got, ok)
	}
	if data, ok := impl.ReadFile(d, "log"); !ok || data != "abcd" {
		t.Errorf("ReadFile = %q, %v", data, ok)
	}
	got, code := impl.Replace(impl.Sync(d), "log", "new")
	want = impl.Disk{
		Live: files("b", "x", "log", "new"), Safe: files("b", "x", "log", "abcd"),
		Ops: []impl.DOp{appendOp("log.new", "new"), renameOp("log.new", "log")},
	}
	if code != impl.DkOk || !sameDisk(got, want) {
		t.Errorf("Replace = %v, %d", got, code)
	}
}

func TestGoodDisks(t *testing.T) {
	for name, d := range goodDisks(t) {
		if !impl.DiskOk(d) || !plainDiskOk(d) {
			t.Errorf("%s: DiskOk is false", name)
		}
		if got := impl.Sync(d); !sameDisk(got, still(d.Live)) {
			t.Errorf("%s: Sync = %v", name, got)
		}
		for _, f := range d.Live {
			if data, ok := impl.ReadFile(d, f.Name); !ok || data != f.Data {
				t.Errorf("%s: ReadFile of %q = %q, %v", name, f.Name, data, ok)
			}
		}
		for _, other := range []string{"", "none", "lo", "logg", "LOG", "log\x00", tooLongName, strings.Repeat("x", 1000000)} {
			if data, ok := impl.ReadFile(d, other); ok || data != "" {
				t.Errorf("%s: ReadFile of %.20q = %q, %v", name, other, data, ok)
			}
		}
	}
}

// Only the files that are read have data for ReadFile.
func TestReadFileIsOfLive(t *testing.T) {
	d := done(t, still(files("a", "1", "b", "2")), removeOp("a"), appendOp("c", ""), renameOp("b", "d"))
	for name, want := range map[string]string{"c": "", "d": "2"} {
		if data, ok := impl.ReadFile(d, name); !ok || data != want {
			t.Errorf("ReadFile of %s = %q, %v", name, data, ok)
		}
	}
	for _, name := range []string{"a", "b"} {
		if data, ok := impl.ReadFile(d, name); ok || data != "" {
			t.Errorf("ReadFile of %s = %q, %v", name, data, ok)
		}
	}
}

func TestBadDisks(t *testing.T) {
	for name, d := range badDisks() {
		if impl.DiskOk(d) || plainDiskOk(d) {
			t.Errorf("%s: DiskOk is true", name)
		}
		for _, op := range append(slices.Collect(maps.Values(badForms())), appendOp("log", "x"), removeOp("log"), removeOp("none"), appendOp("log", fullData)) {
			if got, code := impl.Do(d, op); code != impl.DkDisk || !sameDisk(got, impl.Disk{}) {
				t.Errorf("%s: Do = %v, %d", name, got, code)
			}
		}
		if got := impl.Sync(d); !sameDisk(got, impl.Disk{}) {
			t.Errorf("%s: Sync = %v", name, got)
		}
		for _, keep := range [][]int64{nil, {0}, {-1}} {
			if got, ok := impl.Crash(d, keep, 0); ok || !sameDisk(got, impl.Disk{}) {
				t.Errorf("%s: Crash = %v, %v", name, got, ok)
			}
		}
		for _, file := range append(files("log", "", "", "", "m", ""), d.Live[:min(2, len(d.Live))]...) {
			if data, ok := impl.ReadFile(d, file.Name); ok || data != "" {
				t.Errorf("%s: ReadFile = %q, %v", name, data, ok)
			}
			if got, code := impl.Replace(d, file.Name, "x"); code != impl.DkDisk || !sameDisk(got, impl.Disk{}) {
				t.Errorf("%s: Replace = %v, %d", name, got, code)
			}
		}
	}
}

func TestDo(t *testing.T) {
	two := files("a", "1", "c", "2")
	for _, x := range []struct {
		before []impl.File
		op     impl.DOp
		want   []impl.File
	}{
		{nil, appendOp("b", "x"), files("b", "x")},
		{nil, appendOp("b", ""), files("b", "")},
		{nil, appendOp(longName, "x"), files(longName, "x")},
		{nil, appendOp("\xff", "\x00"), files("\xff", "\x00")},
		{nil, appendOp("b", fullData), files("b", fullData)},
		{two, appendOp("c", "34"), files("a", "1", "c", "234")},
		{two, appendOp("c", ""), two},
		{two, appendOp("b", "x"), files("a", "1", "b", "x", "c", "2")},
		{two, appendOp("B", "x"), files("B", "x", "a", "1", "c", "2")},
		{two, appendOp("d", "x"), files("a", "1", "c", "2", "d", "x")},
		{two, appendOp("aa", "x"), files("a", "1", "aa", "x", "c", "2")},
		{two, appendOp("a\x00", "x"), files("a", "1", "a\x00", "x", "c", "2")},
		{two, appendOp("d", fullData[2:]), files("a", "1", "c", "2", "d", fullData[2:])},
		{two, renameOp("a", "b"), files("b", "1", "c", "2")},
		{two, renameOp("a", "d"), files("c", "2", "d", "1")},
		{two, renameOp("a", "c"), files("c", "1")},
		{two, renameOp("c", "a"), files("a", "2")},
		{two, renameOp("c", "C"), files("C", "2", "a", "1")},
		{two, renameOp("c", longName), files("a", "1", longName, "2")},
		{two, renameOp("a", "a"), two},
		{two, renameOp("c", "c"), two},
		{two, removeOp("a"), files("c", "2")},
		{two, removeOp("c"), files("a", "1")},
		{files(longName, "1"), removeOp(longName), nil},
		{files(longName, "1"), renameOp(longName, "a"), files("a", "1")},
	} {
		d := still(x.before)
		want := impl.Disk{Live: x.want, Safe: x.before, Ops: []impl.DOp{x.op}}
		if got, code := impl.Do(d, x.op); code != impl.DkOk || !sameDisk(got, want) {
			t.Errorf("Do of %v on %v = %v, %d", x.op, x.before, got, code)
		}
		// The same file again, behind other operations.
		d = done(t, impl.Disk{}, appendAll(x.before)...)
		want = impl.Disk{Live: x.want, Ops: append(appendAll(x.before), x.op)}
		if got, code := impl.Do(d, x.op); code != impl.DkOk || !sameDisk(got, want) {
			t.Errorf("Do of %v on %v = %v, %d", x.op, d, got, code)
		}
	}
}

// checkRejected checks a code, and that the disk is returned unchanged.
func checkRejected(t *testing.T, name string, d impl.Disk, op impl.DOp, want int64) {
	t.Helper()
	if got, code := impl.Do(d, op); code != want || !sameDisk(got, d) {
		t.Errorf("%s: Do of %.40q %.40q = %d instead of %d, and the same disk: %v", name, op.Name, op.To, code, want, sameDisk(got, d))
	}
}

func TestBadForms(t *testing.T) {
	for disk, d := range goodDisks(t) {
		for name, op := range badForms() {
			checkRejected(t, disk+", "+name, d, op, impl.DkForm)
		}
	}
}

// The first code of several that apply is that of the form, then that of the file.
func TestOrderOfDiskCodes(t *testing.T) {
	spent := done(t, still(files("log", "ab")), alternating(impl.MaxOps/2, "x")...)
	for name, d := range map[string]impl.Disk{
		"no operations left": spent,
		"no files left":      still(manyFiles(impl.MaxFiles, "")),
		"no bytes left":      still(files("a", fullData)),
	} {
		checkRejected(t, name, d, removeOp("none"), impl.DkNone)
		checkRejected(t, name, d, renameOp("none", "other"), impl.DkNone)
		checkRejected(t, name, d, renameOp("none", "none"), impl.DkNone)
		checkRejected(t, name, d, renameOp("none", d.Live[0].Name), impl.DkNone)
		checkRejected(t, name, d, removeOp(longName), impl.DkNone)
		checkRejected(t, name, d, impl.DOp{Kind: impl.DkRemove, Name: "none", Data: fullData + "x"}, impl.DkForm)
		checkRejected(t, name, d, renameOp("none", ""), impl.DkForm)
		checkRejected(t, name, d, appendOp("", fullData+"x"), impl.DkForm)
		checkRejected(t, name, d, appendOp("new", fullData+"x"), impl.DkFull)
		checkRejected(t, name, d, appendOp("new", "x"), impl.DkFull)
	}
	for _, op := range []impl.DOp{removeOp("log"), renameOp("log", "log"), renameOp("log", "m"), appendOp("log", ""), appendOp("log", "x"), appendOp("m", "")} {
		checkRejected(t, "no operations left", spent, op, impl.DkFull)
	}
	checkRejected(t, "the zero disk", impl.Disk{}, removeOp("a"), impl.DkNone)
	checkRejected(t, "the zero disk", impl.Disk{}, renameOp("a", "a"), impl.DkNone)
	checkRejected(t, "the zero disk", impl.Disk{}, appendOp("a", fullData+"x"), impl.DkFull)
}

func TestDiskLimits(t *testing.T) {
	full := still(manyFiles(impl.MaxFiles, "x"))
	checkRejected(t, "60 files", full, appendOp("99", ""), impl.DkFull)
	checkRejected(t, "60 files", full, appendOp("1", ""), impl.DkFull)
	for _, op := range []impl.DOp{appendOp("10", "y"), appendOp("69", fullData[:impl.MaxBytes-60]), renameOp("10", "99"), renameOp("10", "69"), removeOp("69")} {
		if d := done(t, full, op); !impl.DiskOk(d) {
			t.Errorf("%v makes a disk that is not valid", op)
		}
	}
	checkRejected(t, "60 bytes", full, appendOp("69", fullData[:impl.MaxBytes-59]), impl.DkFull)
	if d := done(t, still(manyFiles(59, "")), appendOp("99", "")); len(d.Live) != 60 || !impl.DiskOk(d) {
		t.Errorf("the disk with 60 files is %v", d)
	}
	heavy := still(files("a", fullData[:199999]))
	for _, name := range []string{"a", "b"} {
		checkRejected(t, "199999 bytes", heavy, appendOp(name, "xy"), impl.DkFull)
		d := done(t, heavy, appendOp(name, "x"))
		checkRejected(t, "200000 bytes", d, appendOp(name, "x"), impl.DkFull)
		checkRejected(t, "200000 bytes", d, appendOp("c", "x"), impl.DkFull)
		if d = done(t, d, appendOp(name, ""), appendOp("c", ""), renameOp("c", "d"), removeOp("a"), appendOp("d", fullData[:199999])); !impl.DiskOk(d) {
			t.Error("the disk is not valid")
		}
	}
	most := done(t, still(files("log", "ab")), alternating(100, "x")[:199]...)
	d := done(t, most, removeOp("f"))
	if len(d.Ops) != 200 || !impl.DiskOk(d) {
		t.Errorf("there are %d operations", len(d.Ops))
	}
	checkRejected(t, "200 operations", d, appendOp("log", "c"), impl.DkFull)
	if d = done(t, impl.Sync(d), alternating(100, "x")...); len(d.Ops) != 200 {
		t.Errorf("there are %d operations", len(d.Ops))
	}
}

// randomOp has one of a few names, so that operations meet often.
func randomOp(r *rand.Rand) impl.DOp {
	names := []string{"a", "b", "b.new", "log", "log.new", "B", "\xff", longName}
	name := func() string { return names[r.Intn(len(names))] }
	data := strings.Repeat(string(rune('a'+r.Intn(26))), r.Intn(4))
	switch r.Intn(20) {
	case 0:
		return impl.DOp{Kind: r.Int63n(6) - 1, Name: name(), To: name(), Data: data}
	case 1:
		return impl.DOp{Kind: r.Int63n(6) - 1, Name: []string{"", tooLongName, "a"}[r.Intn(3)], To: []string{"", tooLongName, "a"}[r.Intn(3)]}
	case 2:
		return appendOp(name(), fullData[:50000+50000*r.Intn(4)])
	case 3, 4, 5:
		return renameOp(name(), name())
	case 6, 7, 8:
		return removeOp(name())
	}
	return appendOp(name(), data)
}

// randomDisk performs random operations, some of them synchronized.
func randomDisk(r *rand.Rand, count int) impl.Disk {
	var d impl.Disk
	if r.Intn(4) == 0 {
		d = still(manyFiles(55+r.Intn(6), ""))
	}
	for range count {
		d, _ = plainDo(d, randomOp(r))
		if r.Intn(2*count) == 0 {
			d = still(d.Live)
		}
	}
	return d
}

func TestRandomDisks(t *testing.T) {
	r := rand.New(rand.NewSource(101))
	codes := map[int64]int{}
	for range 300 {
		d := randomDisk(r, r.Intn(12))
		for range 10 {
			op := randomOp(r)
			got, code := impl.Do(d, op)
			want, wantCode := plainDo(d, op)
			if code != wantCode || !sameDisk(got, want) {
				t.Fatalf("Do of %v = %d instead of %d", op, code, wantCode)
			}
			codes[code]++
			name := []string{"a", "b", "log", "B", longName, longName[:96], longName[:97], "", "none"}[r.Intn(9)]
			data := []string{"", "x", fullData[:50000], fullData}[r.Intn(4)]
			got, code = impl.Replace(d, name, data)
			if want, wantCode := plainReplace(d, name, data); code != wantCode || !sameDisk(got, want) {
				t.Fatalf("Replace of %q = %d instead of %d", name, code, wantCode)
			}
			if !impl.DiskOk(got) || !sameDisk(impl.Sync(d), still(d.Live)) {
				t.Fatalf("the disk is not valid")
			}
			codes[code+10]++
			d = want
		}
	}
	for _, code := range []int64{impl.DkOk, impl.DkForm, impl.DkNone, impl.DkFull, 10 + impl.DkOk, 10 + impl.DkForm, 10 + impl.DkFull} {
		if codes[code] < 50 {
			t.Errorf("the disks are too much alike: %v", codes)
		}
	}
}

// changeDisk changes a list of a disk in one place.
func changeDisk(r *rand.Rand, d impl.Disk) impl.Disk {
	d = copyDisk(d)
	list := &d.Live
	if r.Intn(2) == 0 {
		list = &d.Safe
	}
	at := r.Intn(len(*list) + 1)
	switch r.Intn(5) {
	case 0:
		*list = slices.Insert(*list, at, impl.File{Name: []string{"a", "b", "", "zz"}[r.Intn(4)]})
	case 1:
		if at < len(*list) {
			*list = slices.Delete(*list, at, at+1)
		}
	case 2:
		if at < len(*list) {
			(*list)[at].Data += []string{"", "x"}[r.Intn(2)]
		}
	case 3:
		d.Ops = slices.Insert(d.Ops, r.Intn(len(d.Ops)+1), randomOp(r))
	case 4:
		if len(d.Ops) > 0 {
			at := r.Intn(len(d.Ops))
			d.Ops = slices.Delete(d.Ops, at, at+1)
		}
	}
	return d
}

func TestChangedDisks(t *testing.T) {
	r := rand.New(rand.NewSource(102))
	seen := map[bool]int{}
	for range 3000 {
		d := changeDisk(r, randomDisk(r, r.Intn(6)))
		want := plainDiskOk(d)
		if got := impl.DiskOk(d); got != want {
			t.Fatalf("DiskOk(%v) is %v", d, got)
		}
		if got, code := impl.Do(d, appendOp("c", "")); (code == impl.DkDisk) == want || !want && !sameDisk(got, impl.Disk{}) {
			t.Fatalf("Do on %v = %v, %d", d, got, code)
		}
		seen[want]++
	}
	if seen[true] < 200 || seen[false] < 200 {
		t.Errorf("the disks are too much alike: %v", seen)
	}
}

// indexes are 0, 1 and so on.
func indexes(count int) []int64 {
	var list []int64
	for i := range count {
		list = append(list, int64(i))
	}
	return list
}

// subset has the indexes of the bits of a number.
func subset(bits int) []int64 {
	var list []int64
	for i := int64(0); bits>>i > 0; i++ {
		if bits>>i&1 != 0 {
			list = append(list, i)
		}
	}
	return list
}

func TestCrash(t *testing.T) {
	d := done(t, still(files("a", "1", "log", "ab")),
		appendOp("log", "cde"), renameOp("log", "b"), appendOp("b", "fg"), removeOp("a"), appendOp("n", "xyz"), renameOp("n", "b"))
	for _, x := range []struct {
		keep []int64
		torn int64
		want []impl.File
	}{
		{nil, 0, files("a", "1", "log", "ab")},
		{[]int64{}, 5, files("a", "1", "log", "ab")},
		{[]int64{0}, 0, files("a", "1", "log", "ab")},
		{[]int64{0}, 1, files("a", "1", "log", "abc")},
		{[]int64{0}, 2, files("a", "1", "log", "abcd")},
		{[]int64{0}, 3, files("a", "1", "log", "abcde")},
		{[]int64{0}, 4, files("a", "1", "log", "abcde")},
		{[]int64{0}, maxInt, files("a", "1", "log", "abcde")},
		{[]int64{0, 1}, 1, files("a", "1", "b", "abcde")},
		{[]int64{1}, 0, files("a", "1", "b", "ab")},
		{[]int64{2}, 1, files("a", "1", "b", "f", "log", "ab")},
		{[]int64{2}, 0, files("a", "1", "b", "", "log", "ab")},
		{[]int64{0, 2}, 1, files("a", "1", "b", "f", "log", "abcde")},
		{[]int64{0, 3}, 1, files("log", "abcde")},
		{[]int64{1, 2}, 1, files("a", "1", "b", "abf")},
		{[]int64{5}, 1, files("a", "1", "log", "ab")},
		{[]int64{0, 5}, 1, files("a", "1", "log", "abcde")},
		{[]int64{4, 5}, 0, files("a", "1", "b", "xyz", "log", "ab")},
		{[]int64{3, 4}, 2, files("log", "ab", "n", "xy")},
		{[]int64{0, 1, 2, 3, 4, 5}, 0, d.Live},
		{[]int64{0, 1, 2, 3, 4}, 0, files("b", "abcdefg", "n", "")},
	} {
		if got, ok := impl.Crash(d, x.keep, x.torn); !ok || !sameDisk(got, still(x.want)) {
			t.Errorf("Crash with %v and %d = %v, %v", x.keep, x.torn, got, ok)
		}
	}
	for _, keep := range [][]int64{{0, 0}, {1, 0}, {0, 1, 1}, {2, 1, 3}, {-1}, {-1, 0}, {6}, {0, 6}, {5, 6}, {0, 1, 2, 3, 4, 5, 6}, {minInt}, {maxInt}, {1 << 32}, make([]int64, 1000)} {
		for _, torn := range []int64{0, 1, 99, -1} {
			if got, ok := impl.Crash(d, keep, torn); ok || !sameDisk(got, impl.Disk{}) {
				t.Errorf("Crash with %v and %d = %v, %v", keep, torn, got, ok)
			}
		}
	}
	for _, torn := range []int64{-1, -2, minInt} {
		for _, keep := range [][]int64{nil, {0}, {1}, {0, 1, 2, 3, 4, 5}} {
			if got, ok := impl.Crash(d, keep, torn); ok || !sameDisk(got, impl.Disk{}) {
				t.Errorf("Crash with %v and %d = %v, %v", keep, torn, got, ok)
			}
		}
	}
	for _, disk := range []impl.Disk{{}, still(d.Live)} {
		if got, ok := impl.Crash(disk, nil, 0); !ok || !sameDisk(got, disk) {
			t.Errorf("Crash without operations = %v, %v", got, ok)
		}
		for _, keep := range [][]int64{{0}, {-1}} {
			if got, ok := impl.Crash(disk, keep, 0); ok || !sameDisk(got, impl.Disk{}) {
				t.Errorf("Crash without operations with %v = %v, %v", keep, got, ok)
			}
		}
	}
}

// Of a loss of power, only the resulting list of files must be valid.
func TestCrashLimits(t *testing.T) {
	many := done(t, still(manyFiles(impl.MaxFiles, "")), removeOp("10"), appendOp("x", ""), removeOp("11"), appendOp("y", ""), renameOp("12", "x"))
	heavy := done(t, still(files("a", fullData[:199999])), appendOp("b", "x"), removeOp("a"), appendOp("b", fullData[:199999]), removeOp("b"), appendOp("c", "yz"))
	for _, x := range []struct {
		d    impl.Disk
		keep []int64
		torn int64
		want bool
	}{
		{many, []int64{0}, 0, true},
		{many, []int64{1}, 0, false},
		{many, []int64{1, 3}, 0, false},
		{many, []int64{0, 1}, 0, true},
		{many, []int64{1, 2}, 0, true},
		{many, []int64{1, 2, 3}, 0, false},
		{many, []int64{1, 2, 3, 4}, 0, true},
		{many, []int64{4}, 0, true},
		{many, []int64{1, 4}, 0, true},
		{heavy, []int64{0}, 0, true},
		{heavy, []int64{2}, 199999, false},
		{heavy, []int64{2}, 1, true},
		{heavy, []int64{2}, 2, false},
		{heavy, []int64{0, 2}, 0, true},
		{heavy, []int64{0, 2}, 1, false},
		{heavy, []int64{0, 2, 3}, 0, true},
		{heavy, []int64{2, 3}, 0, true},
		{heavy, []int64{0, 4}, 0, true},
		{heavy, []int64{0, 4}, 1, false},
		{heavy, []int64{4}, 1, true},
		{heavy, []int64{4}, 2, false},
		{heavy, []int64{2, 4}, 0, false},
		{heavy, []int64{1, 2}, 199999, true},
		{heavy, []int64{1, 2, 4}, 1, true},
		{heavy, []int64{1, 2, 4}, 2, false},
	} {
		got, ok := impl.Crash(x.d, x.keep, x.torn)
		if want, wantOk := plainCrash(x.d, x.keep, x.torn); ok != x.want || ok != wantOk || !sameDisk(got, want) {
			t.Errorf("Crash with %v and %d is %v", x.keep, x.torn, ok)
		}
	}
	// All that was ever written is kept, and nothing of what was removed.
	d := done(t, impl.Disk{}, alternating(impl.MaxOps/2, fullData)...)
	var writes []int64
	for i := int64(0); i < impl.MaxOps; i += 2 {
		writes = append(writes, i)
	}
	if got, ok := impl.Crash(d, writes, 0); ok || !sameDisk(got, impl.Disk{}) {
		t.Error("Crash leaves too many bytes")
	}
	if got, ok := impl.Crash(d, append(writes, impl.MaxOps-1), 0); !ok || !sameDisk(got, impl.Disk{}) {
		t.Errorf("Crash of the whole disk is %v", ok)
	}
}

// checkPromise11 loses the power with all operations and with none.
func checkPromise11(t *testing.T, d impl.Disk) {
	t.Helper()
	last := int64(0)
	if len(d.Ops) > 0 {
		last = int64(len(d.Ops[len(d.Ops)-1].Data))
	}
	for _, torn := range []int64{last, last + 1, maxInt} {
		if got, ok := impl.Crash(d, indexes(len(d.Ops)), torn); !ok || !sameDisk(got, still(d.Live)) {
			t.Errorf("all operations are kept, but the files are different: %v", ok)
		}
	}
	for _, torn := range []int64{0, 1, last, maxInt} {
		if got, ok := impl.Crash(d, nil, torn); !ok || !sameDisk(got, still(d.Safe)) {
			t.Errorf("no operation is kept, but the files are different: %v", ok)
		}
	}
	if got, ok := impl.Crash(impl.Sync(d), nil, 0); !ok || !sameDisk(got, still(d.Live)) {
		t.Errorf("all is synchronized, but the files are different: %v", ok)
	}
}

func TestPromise11(t *testing.T) {
	for _, d := range goodDisks(t) {
		checkPromise11(t, d)
	}
	r := rand.New(rand.NewSource(103))
	for range 300 {
		checkPromise11(t, randomDisk(r, r.Intn(30)))
	}
}

// Each subset of the operations of small disks, with each Torn.
func TestAllCrashes(t *testing.T) {
	r := rand.New(rand.NewSource(104))
	sizes := map[int]int{}
	for range 40 {
		d := randomDisk(r, 4+r.Intn(8))
		for len(d.Ops) > 6 {
			d = randomDisk(r, 8)
		}
		sizes[len(d.Ops)]++
		for bits := range 1 << len(d.Ops) {
			for torn := int64(-1); torn < 6; torn++ {
				got, ok := impl.Crash(d, subset(bits), torn)
				if want, wantOk := plainCrash(d, subset(bits), torn); ok != wantOk || !sameDisk(got, want) {
					t.Fatalf("Crash with %v and %d is %v", subset(bits), torn, ok)
				}
				if ok && !impl.DiskOk(got) {
					t.Fatalf("Crash with %v and %d is not valid", subset(bits), torn)
				}
			}
		}
	}
	if len(sizes) < 5 {
		t.Errorf("the disks are too much alike: %v", sizes)
	}
}

func TestReplace(t *testing.T) {
	for _, x := range []struct {
		before     []impl.File
		name, data string
		want       []impl.File
		ops        int
	}{
		{nil, "a", "x", files("a", "x"), 2},
		{nil, "a", "", files("a", ""), 2},
		{nil, longName[:96], "x", files(longName[:96], "x"), 2},
		{nil, "a", fullData, files("a", fullData), 2},
		{files("a", "1"), "a", "x", files("a", "x"), 2},
		{files("a", "1"), "a", "", files("a", ""), 2},
		{files("a", "1", "b", "2"), "b", "x", files("a", "1", "b", "x"), 2},
		{files("a", "1", "b", "2"), "c", "x", files("a", "1", "b", "2", "c", "x"), 2},
		{files("a", "1", "a.new", "2"), "a", "x", files("a", "x"), 3},
		{files("a.new", "2"), "a", "x", files("a", "x"), 3},
		{files("a.new", ""), "a", "", files("a", ""), 3},
		{files("a", "1", "a.new", "2"), "a.new", "x", files("a", "1", "a.new", "x"), 2},
		{files("a.new", "1", "a.new.new", "2"), "a.new", "x", files("a.new", "x"), 3},
		{files("a", "1", "a.new", fullData[1:]), "a", fullData[1:], files("a", fullData[1:]), 3},
		{manyFiles(59, ""), "20", "x", append(append(manyFiles(10, ""), files("20", "x")...), manyFiles(59, "")[11:]...), 2},
	} {
		d := still(x.before)
		got, code := impl.Replace(d, x.name, x.data)
		if code != impl.DkOk || !slices.Equal(got.Live, x.want) || !slices.Equal(got.Safe, x.before) || len(got.Ops) != x.ops || !impl.DiskOk(got) {
			t.Errorf("Replace of %q = %d, with %d operations", x.name, code, len(got.Ops))
		}
		if want, wantCode := plainReplace(d, x.name, x.data); code != wantCode || !sameDisk(got, want) {
			t.Errorf("Replace of %q = %v instead of %v", x.name, got, want)
		}
	}
}

// Each of the three operations can be rejected, and then there are none of them.
func TestReplaceRejected(t *testing.T) {
	other := done(t, still(files(".new", "3", "a", "1", "a.new", "2", longName, "4")), appendOp("b", "5"))
	ready := func(left int) impl.Disk {
		return done(t, other, slices.Repeat([]impl.DOp{renameOp("b", "b")}, impl.MaxOps-1-left)...)
	}
	for i, x := range []struct {
		d          impl.Disk
		name, data string
		want       int64
	}{
		{ready(0), "a", "x", impl.DkFull},
		{ready(1), "a", "x", impl.DkFull},
		{ready(2), "a", "x", impl.DkFull},
		{ready(3), "a", "x", impl.DkOk},
		{ready(0), "b", "x", impl.DkFull},
		{ready(1), "b", "x", impl.DkFull},
		{ready(2), "b", "x", impl.DkOk},
		{ready(0), "", "x", impl.DkFull},
		{ready(1), "", "x", impl.DkFull},
		{ready(2), "", "x", impl.DkForm},
		{ready(0), longName, "x", impl.DkForm},
		{ready(0), longName[:97], "x", impl.DkForm},
		{ready(0), longName[:96], "x", impl.DkFull},
		{other, "", "x", impl.DkForm},
		{other, "", fullData, impl.DkFull},
		{impl.Disk{}, "", "x", impl.DkForm},
		{other, longName, "x", impl.DkForm},
		{other, longName[:97], "x", impl.DkForm},
		{other, tooLongName, "x", impl.DkForm},
		{other, tooLongName, fullData + "x", impl.DkForm},
		{other, strings.Repeat("x", 1000000), "x", impl.DkForm},
		{other, "a", fullData, impl.DkFull},
		{other, "a", fullData[3:], impl.DkFull},
		{other, "a", fullData[4:], impl.DkOk},
		{other, "a", fullData + fullData, impl.DkFull},
		{still(files("a", fullData)), "a", "x", impl.DkFull},
		{still(files("a", fullData)), "a", "", impl.DkOk},
		{still(manyFiles(60, "")), "20", "x", impl.DkFull},
		{still(manyFiles(60, "")), "none", "x", impl.DkFull},
	} {
		got, code := impl.Replace(x.d, x.name, x.data)
		if code != x.want || code != impl.DkOk && !sameDisk(got, x.d) {
			t.Errorf("case %d: Replace = %d instead of %d, and the same disk: %v", i, code, x.want, sameDisk(got, x.d))
		}
		if want, wantCode := plainReplace(x.d, x.name, x.data); code != wantCode || !sameDisk(got, want) {
			t.Errorf("case %d: Replace = %d instead of %d", i, code, wantCode)
		}
	}
}

// A replaced file has the old or the new contents, if no other new file was
// synchronized.
func TestReplacedFileIsWhole(t *testing.T) {
	d, code := impl.Replace(still(files("log", "old")), "log", "new contents")
	if code != impl.DkOk {
		t.Fatal(code)
	}
	seen := map[string]int{}
	for bits := range 1 << len(d.Ops) {
		for torn := range int64(15) {
			after, ok := impl.Crash(d, subset(bits), torn)
			data, found := impl.ReadFile(after, "log")
			if !ok || !found {
				t.Fatalf("Crash with %v and %d: %v, %v", subset(bits), torn, ok, found)
			}
			seen[data]++
		}
	}
	if len(seen) != 2 || seen["old"] != 45 || seen["new contents"] != 15 {
		t.Errorf("the contents are %v", seen)
	}
}

// diskCalls are all calls that return a disk.
func diskCalls() map[string]func(d impl.Disk) impl.Disk {
	do := func(op impl.DOp) func(d impl.Disk) impl.Disk {
		return func(d impl.Disk) impl.Disk {
			next, _ := impl.Do(d, op)
			return next
		}
	}
	crash := func(torn int64, keep ...int64) func(d impl.Disk) impl.Disk {
		return func(d impl.Disk) impl.Disk {
			next, _ := impl.Crash(d, keep, torn)
			return next
		}
	}
	replace := func(name, data string) func(d impl.Disk) impl.Disk {
		return func(d impl.Disk) impl.Disk {
			next, _ := impl.Replace(d, name, data)
			return next
		}
	}
	return map[string]func(d impl.Disk) impl.Disk{
		"append": do(appendOp("log", "z")), "append to none": do(appendOp("none", "z")), "rename": do(renameOp("log", "a")), "remove": do(removeOp("log")),
		"DkForm": do(impl.DOp{}), "DkNone": do(removeOp("none")), "DkFull": do(appendOp("none", fullData+"x")),
		"Sync": impl.Sync, "Crash": crash(0), "Crash with 0": crash(1, 0), "Crash with 0 and 1": crash(1, 0, 1), "no Crash": crash(-1),
		"Replace": replace("log", "z"), "Replace of none": replace("none", "z"), "no Replace": replace("", ""),
	}
}

func TestDiskArgumentsStay(t *testing.T) {
	disks := goodDisks(t)
	for name, d := range badDisks() {
		disks["bad: "+name] = d
	}
	for name, d := range disks {
		if len(d.Live)+len(d.Safe)+len(d.Ops) > 1000 {
			continue
		}
		g, check := guardDisk(d)
		for call, of := range diskCalls() {
			t.Run(name+", "+call, func(t *testing.T) { checkNewDisk(t, g, of) })
		}
		ok := impl.DiskOk(g)
		data, found := impl.ReadFile(g, "log")
		if again, foundAgain := impl.ReadFile(copyDisk(d), "log"); impl.DiskOk(copyDisk(d)) != ok || again != data || foundAgain != found {
			t.Errorf("%s: equal calls have different results", name)
		}
		for _, kept := range [][]int64{{0}, {0, 1}, {1, 0}} {
			keep := guard(kept, 99)
			impl.Crash(g, keep.list, 1)
			keep.check(t, kept, 99)
		}
		t.Run(name, check)
	}
}
