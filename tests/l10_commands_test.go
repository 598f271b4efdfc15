package tests

import (
	"math/rand"
	"regexp"
	"slices"
	"strconv"
	"strings"
	"testing"

	"loop.example/g00762/impl"
)

const (
	noKind = 0
	kinds  = 5
)

type cmdCase struct {
	c    impl.Cmd
	text string
}

func sameCmd(a, b impl.Cmd) bool {
	return a.Kind == b.Kind && a.A == b.A && a.B == b.B && a.T == b.T && a.Text == b.Text && slices.EqualFunc(a.Docs, b.Docs, slices.Equal[[]int64])
}

func copyCmd(c impl.Cmd) impl.Cmd {
	docs := make([][]int64, len(c.Docs))
	for i, d := range c.Docs {
		docs[i] = slices.Clone(d)
	}
	c.Docs = docs
	return c
}

func cmd(t *testing.T, s string) impl.Cmd {
	t.Helper()
	c, ok := impl.ReadCmd(s)
	if !ok {
		t.Fatalf("ReadCmd(%q) is false", s)
	}
	return c
}

func cmds(t *testing.T, texts ...string) []impl.Cmd {
	t.Helper()
	var list []impl.Cmd
	for _, s := range texts {
		list = append(list, cmd(t, s))
	}
	return list
}

func loadCmd(s string) impl.Cmd {
	return impl.Cmd{Kind: impl.CmLoad, Text: s}
}

func goodCmds() []cmdCase {
	gone := int64(impl.Missing)
	most := docsOf(slices.Repeat([]int64{gone}, impl.MaxDocs)...)
	mostText := strings.Repeat(" -", impl.MaxDocs)
	mixed := [][]int64{{gone, 2}, {1}, {impl.MaxFeat, -impl.MaxFeat, 0, gone, gone, 7}, {gone}}
	mixedText := " -,2 1 1000000,-1000000,0,-,-,7 -"
	list := []cmdCase{
		{impl.Cmd{Kind: impl.CmPlan, A: 1, B: 2}, "plan 1 2"},
		{impl.Cmd{Kind: impl.CmPlan}, "plan 0 0"},
		{impl.Cmd{Kind: impl.CmPlan, A: 99}, "plan 99 0"},
		{impl.Cmd{Kind: impl.CmPlan, B: 99}, "plan 0 99"},
		{impl.Cmd{Kind: impl.CmPlan, A: 99, B: 99, Docs: [][]int64{}}, "plan 99 99"},
		{impl.Cmd{Kind: impl.CmScore, Docs: [][]int64{{1}, {gone, 2}}}, "score 1 -,2"},
		{impl.Cmd{Kind: impl.CmScore}, "score"},
		{impl.Cmd{Kind: impl.CmScore, Docs: [][]int64{}}, "score"},
		{impl.Cmd{Kind: impl.CmScore, Docs: mixed}, "score" + mixedText},
		{impl.Cmd{Kind: impl.CmScore, Docs: most}, "score" + mostText},
		{impl.Cmd{Kind: impl.CmClass}, "class 0"},
		{impl.Cmd{Kind: impl.CmClass, T: -5, Docs: mixed}, "class -5" + mixedText},
		{impl.Cmd{Kind: impl.CmClass, T: impl.MaxScore}, "class 100000000000"},
		{impl.Cmd{Kind: impl.CmClass, T: -impl.MaxScore, Docs: most}, "class -100000000000" + mostText},
		{impl.Cmd{Kind: impl.CmTop}, "top 0"},
		{impl.Cmd{Kind: impl.CmTop, A: 3, Docs: mixed}, "top 3" + mixedText},
		{impl.Cmd{Kind: impl.CmTop, A: impl.MaxDocs, Docs: most}, "top 20" + mostText},
	}
	for _, s := range []string{
		"", " ", "  ", "x", "1 0", " 1 0", "1 0 ", exampleEns, "any text", "load 1 0", "\r", "\x00", "\xff\xfe", "\u2028", "\v\t", ",-",
		strings.Repeat("x", impl.MaxLoad), strings.Repeat(" ", impl.MaxLoad), strings.Repeat("\u00e9", impl.MaxLoad/2),
	} {
		list = append(list, cmdCase{loadCmd(s), "load " + s})
	}
	return list
}

// oneField sets one field of a command.
func oneField() map[string]func(c *impl.Cmd) {
	return map[string]func(c *impl.Cmd){
		"A 1":              func(c *impl.Cmd) { c.A = 1 },
		"A -1":             func(c *impl.Cmd) { c.A = -1 },
		"B 1":              func(c *impl.Cmd) { c.B = 1 },
		"B -1":             func(c *impl.Cmd) { c.B = -1 },
		"T 1":              func(c *impl.Cmd) { c.T = 1 },
		"T -1":             func(c *impl.Cmd) { c.T = -1 },
		"Docs":             func(c *impl.Cmd) { c.Docs = [][]int64{{1}} },
		"Docs without any": func(c *impl.Cmd) { c.Docs = [][]int64{nil} },
		"Text":             func(c *impl.Cmd) { c.Text = "1 0" },
		"Text of a space":  func(c *impl.Cmd) { c.Text = " " },
		"Text of a byte 0": func(c *impl.Cmd) { c.Text = "\x00" },
	}
}

// names reports whether a Kind names a field.
func names(kind int64, field string) bool {
	return slices.Contains(map[int64][]string{
		impl.CmLoad: {"Text"}, impl.CmPlan: {"A", "B"}, impl.CmScore: {"Docs"}, impl.CmClass: {"T", "Docs"}, impl.CmTop: {"A", "Docs"},
	}[kind], field)
}

// badCmds are not valid.
func badCmds() map[string]impl.Cmd {
	list := map[string]impl.Cmd{
		"too long a Text":       loadCmd(strings.Repeat("x", impl.MaxLoad+1)),
		"a very long Text":      loadCmd(strings.Repeat("x", 100000)),
		"too many bytes":        loadCmd(strings.Repeat("\u00e9", impl.MaxLoad/2) + "x"),
		"a line feed":           loadCmd("\n"),
		"a line feed at first":  loadCmd("\n1 0"),
		"a line feed at last":   loadCmd("1 0\n"),
		"a line feed far off":   loadCmd(strings.Repeat("x", impl.MaxLoad-1) + "\n"),
		"a line feed after CR":  loadCmd("1 0\r\n"),
		"line feeds and x":      loadCmd("\nx\n"),
		"a line feed too late":  loadCmd(strings.Repeat("x", impl.MaxLoad) + "\n"),
		"a plan with negatives": {Kind: impl.CmPlan, A: -1, B: -1},
	}
	for _, kind := range []int64{noKind, -1, kinds + 1, 7, 1<<32 + 1, minInt, maxInt} {
		name := "Kind " + strconv.FormatInt(kind, 10)
		list[name] = impl.Cmd{Kind: kind}
		list[name+" with Text"] = impl.Cmd{Kind: kind, Text: "1 0"}
		list[name+" with all"] = impl.Cmd{Kind: kind, A: 1, B: 1, T: 1, Docs: docsOf(1), Text: "1 0"}
	}
	for kind := int64(1); kind <= kinds; kind++ {
		for name, set := range oneField() {
			if field, _, _ := strings.Cut(name, " "); !names(kind, field) {
				c := impl.Cmd{Kind: kind}
				set(&c)
				list["Kind "+strconv.FormatInt(kind, 10)+" with "+name] = c
			}
		}
	}
	for _, x := range []int64{-1, 100, 101, 1 << 32, minInt, maxInt} {
		list["plan with A "+strconv.FormatInt(x, 10)] = impl.Cmd{Kind: impl.CmPlan, A: x, B: 1}
		list["plan with B "+strconv.FormatInt(x, 10)] = impl.Cmd{Kind: impl.CmPlan, A: 1, B: x}
	}
	for _, x := range []int64{-1, impl.MaxDocs + 1, 99, 1 << 32, minInt, maxInt} {
		list["top with A "+strconv.FormatInt(x, 10)] = impl.Cmd{Kind: impl.CmTop, A: x, Docs: docsOf(1)}
	}
	for _, x := range []int64{impl.MaxScore + 1, -impl.MaxScore - 1, 1 << 62, minInt, maxInt} {
		list["class with T "+strconv.FormatInt(x, 10)] = impl.Cmd{Kind: impl.CmClass, T: x, Docs: docsOf(1)}
	}
	for _, kind := range []int64{impl.CmScore, impl.CmClass, impl.CmTop} {
		name := "Kind " + strconv.FormatInt(kind, 10)
		list[name+" with 21 documents"] = impl.Cmd{Kind: kind, Docs: zeroDocs(impl.MaxDocs+1, 1)}
		list[name+" with 1000 documents"] = impl.Cmd{Kind: kind, Docs: zeroDocs(1000, 1)}
		for i, d := range badDocs() {
			number := " " + strconv.Itoa(i)
			list[name+" with bad document"+number] = impl.Cmd{Kind: kind, Docs: [][]int64{d}}
			list[name+" with bad first document"+number] = impl.Cmd{Kind: kind, Docs: append([][]int64{d}, docsOf(1, 2)...)}
			list[name+" with bad last document"+number] = impl.Cmd{Kind: kind, Docs: append(zeroDocs(impl.MaxDocs-1, 1), d)}
		}
	}
	return list
}

func TestCmdLimits(t *testing.T) {
	if impl.MaxLoad != 4000 || impl.MaxCmds != 60 {
		t.Error("a limit is different")
	}
	if !slices.Equal([]int64{impl.CmLoad, impl.CmPlan, impl.CmScore, impl.CmClass, impl.CmTop}, []int64{1, 2, 3, 4, 5}) {
		t.Error("a Kind is different")
	}
	if !slices.Equal([]int64{impl.MhOk, impl.MhForm, impl.MhText, impl.MhNone, impl.MhDoc, impl.MhPlan}, []int64{0, 1, 2, 3, 4, 5}) {
		t.Error("a code is different")
	}
}

func TestGoodCmds(t *testing.T) {
	for _, c := range goodCmds() {
		if !impl.CmdOk(c.c) {
			t.Errorf("CmdOk(%v) is false", c.c)
		}
		if got := impl.CmdText(c.c); got != c.text {
			t.Errorf("CmdText(%v) = %q", c.c, got)
		}
		if got, ok := impl.ReadCmd(c.text); !ok || !sameCmd(got, c.c) {
			t.Errorf("ReadCmd(%q) = %v, %v", c.text, got, ok)
		}
	}
}

func TestBadCmds(t *testing.T) {
	for name, c := range badCmds() {
		if impl.CmdOk(c) {
			t.Errorf("%s: CmdOk is true", name)
		}
		if got := impl.CmdText(c); got != "" {
			t.Errorf("%s: CmdText is %q", name, got)
		}
	}
}

// Each number from below the least one to above the greatest one.
func TestCmdNumbers(t *testing.T) {
	for x := int64(-3); x <= 105; x++ {
		for _, c := range []struct {
			c    impl.Cmd
			most int64
		}{
			{impl.Cmd{Kind: impl.CmPlan, A: x}, 99}, {impl.Cmd{Kind: impl.CmPlan, B: x}, 99}, {impl.Cmd{Kind: impl.CmPlan, A: x, B: x}, 99},
			{impl.Cmd{Kind: impl.CmTop, A: x}, 20}, {impl.Cmd{Kind: impl.CmTop, A: x, Docs: docsOf(1)}, 20},
		} {
			if got := impl.CmdOk(c.c); got != (x >= 0 && x <= c.most) {
				t.Errorf("CmdOk(%v) is %v", c.c, got)
			}
		}
		if !impl.CmdOk(impl.Cmd{Kind: impl.CmClass, T: x}) {
			t.Errorf("CmdOk of T %d is false", x)
		}
	}
	for count := range impl.MaxDocs + 5 {
		for size := range impl.MaxFeats + 2 {
			want := count <= impl.MaxDocs && (size >= 1 && size <= impl.MaxFeats || count == 0)
			if got := impl.CmdOk(impl.Cmd{Kind: impl.CmScore, Docs: zeroDocs(count, size)}); got != want {
				t.Errorf("CmdOk of %d documents with %d numbers is %v", count, size, got)
			}
		}
	}
}

func checkNoCmd(t *testing.T, s string) {
	t.Helper()
	if got, ok := impl.ReadCmd(s); ok || !sameCmd(got, impl.Cmd{}) {
		t.Errorf("ReadCmd(%q) = %v, %v", s, got, ok)
	}
}

func TestReadCmdBadForms(t *testing.T) {
	for _, s := range []string{
		"", " ", "\n", "x", "1", "load", "load\n", "load\n1 0", "load a\nb", "load \n", " load ", " load 1 0", "Load 1 0", "LOAD ", "loads ", "loa 1 0",
		"load\t1 0", "load" + " " + strings.Repeat("x", impl.MaxLoad+1),
		"plan", "plan ", "plan 1", "plan 1 ", "plan  1", "plan 1  2", "plan 1 2 ", "plan 1 2 3", "plan 1 2 -", "plan 1 2 1,2", " plan 1 2", "plan 1,2",
		"plan 100 1", "plan 1 100", "plan -1 1", "plan 1 -1", "plan 1 2\n", "plan\n1 2", "plan1 2", "PLAN 1 2", "plan 1 x", "plan - -",
		"score ", "score  1", "score 1 ", "score 1  2", " score", " score 1", "score x", "score 1 x", "score 1\n", "score\n", "score 1,", "score ,1", "score -,2 1,,2",
		"score 1000001", "score -1000001", "score 9999999", "score 1,2,3,4,5,6,7", "score" + strings.Repeat(" 1", impl.MaxDocs+1), "score" + strings.Repeat(" 1", 1000),
		"score" + strings.Repeat(" 1", impl.MaxDocs) + " ", "score\t1", "scores 1", "scor 1", "Score 1", "score\x00",
		"class", "class ", "class  1", "class x", "class 01 1", "class 1 01", "class 1  1", "class 1 ", "class - 1", "class 1,2", "class -", "class +1", "class 1.5",
		"class 100000000001", "class -100000000001", "class 1" + strings.Repeat(" 1", impl.MaxDocs+1), "class 1 1\n", " class 1", "Class 1",
		"top", "top ", "top x", "top 21", "top 21 1", "top -1", "top 99", "top  1", "top 1 ", "top 1  2", "top - 1", "top 01 1", "top 1,2", "top 5 x", "top 5 1 2 x",
		"top 5" + strings.Repeat(" 1", impl.MaxDocs+1), " top 1", "TOP 1", "tops 1", "top\n1",
		"fly 1", "fly", "cost", "span", "cached", "region 1", "cload 1 0", "1 2", "load,1", "score,1", "topscore 1", "plan class 1",
		strings.Repeat(" ", 1000), strings.Repeat("score ", 100), strings.Repeat("1 ", 5000),
	} {
		checkNoCmd(t, s)
	}
}

func TestReadCmdBadNumbers(t *testing.T) {
	for _, x := range badNumbers() {
		for _, s := range []string{"plan " + x + " 1", "plan 1 " + x, "class " + x, "class " + x + " 1", "class " + x + " 1 2", "top " + x, "top " + x + " 1"} {
			checkNoCmd(t, s)
		}
		if x != "-" {
			for _, head := range []string{"score ", "class 5 ", "top 5 "} {
				checkNoCmd(t, head+x)
				checkNoCmd(t, head+"1 "+x+" 2")
				checkNoCmd(t, head+"1,"+x+" 2")
			}
		}
	}
	for _, x := range []string{"9223372036854775807", "-9223372036854775808", "100000000001", "1000000000000"} {
		for _, head := range []string{"plan ", "plan 1 ", "class ", "top ", "score ", "class 1 ", "top 1 "} {
			checkNoCmd(t, head+x)
		}
	}
}

func randomCmd(r *rand.Rand) impl.Cmd {
	c := impl.Cmd{Kind: 1 + r.Int63n(kinds)}
	switch c.Kind {
	case impl.CmLoad:
		c.Text = mutated(r, plainEnsText(planningEns(r, r.Intn(3))), "01 |ls:-x\x00\xff")
		return c
	case impl.CmPlan:
		c.A, c.B = r.Int63n(100), r.Int63n(100)
		return c
	case impl.CmClass:
		c.T = r.Int63n(41) - 20
		if r.Intn(3) == 0 {
			c.T = r.Int63n(2*impl.MaxScore+1) - impl.MaxScore
		}
	case impl.CmTop:
		c.A = r.Int63n(impl.MaxDocs + 1)
	}
	for range r.Intn(4) * r.Intn(7) {
		c.Docs = append(c.Docs, randomDoc(r, 1+r.Intn(impl.MaxFeats)))
	}
	return c
}

func plainCmdText(c impl.Cmd) string {
	number := func(x int64) string { return " " + strconv.Itoa(int(x)) }
	s := ""
	switch c.Kind {
	case impl.CmLoad:
		return "load " + c.Text
	case impl.CmPlan:
		return "plan" + number(c.A) + number(c.B)
	case impl.CmScore:
		s = "score"
	case impl.CmClass:
		s = "class" + number(c.T)
	case impl.CmTop:
		s = "top" + number(c.A)
	}
	for _, d := range c.Docs {
		s += " " + impl.DocText(d)
	}
	return s
}

func TestCmdFromText(t *testing.T) {
	r := rand.New(rand.NewSource(81))
	seen := map[int64]int{}
	for range 20000 {
		c := randomCmd(r)
		s := impl.CmdText(c)
		if !impl.CmdOk(c) || s != plainCmdText(c) {
			t.Fatalf("CmdText(%v) = %q", c, s)
		}
		if got, ok := impl.ReadCmd(s); !ok || !sameCmd(got, c) {
			t.Fatalf("ReadCmd(%q) = %v, %v", s, got, ok)
		}
		seen[c.Kind]++
	}
	if len(seen) != kinds {
		t.Errorf("the commands are too much alike: %v", seen)
	}
}

// cmdPattern describes all texts of commands but those of load commands.
func cmdPattern() *regexp.Regexp {
	docNumber := `(?:-|0|-?(?:1000000|[1-9][0-9]{0,5}))`
	docs := `(?: ` + docNumber + `(?:,` + docNumber + `){0,5}){0,20}`
	below100 := `(?:0|[1-9][0-9]?)`
	return regexp.MustCompile(`\A(?:plan ` + below100 + ` ` + below100 +
		`|score` + docs +
		`|class (?:0|-?(?:100000000000|[1-9][0-9]{0,10}))` + docs +
		`|top (?:[0-9]|1[0-9]|20)` + docs + `)\z`)
}

func plainIsCmd(pattern *regexp.Regexp, s string) bool {
	if text, ok := strings.CutPrefix(s, "load "); ok {
		return len(text) <= 4000 && !strings.Contains(text, "\n")
	}
	return pattern.MatchString(s)
}

func TestReadCmdOnlyReadsCmdTexts(t *testing.T) {
	r := rand.New(rand.NewSource(82))
	pattern := cmdPattern()
	taken, refused := map[int64]int{}, 0
	for range 40000 {
		c := randomCmd(r)
		s := mutated(r, plainCmdText(c), "0019-, \nplx")
		got, ok := impl.ReadCmd(s)
		if want := plainIsCmd(pattern, s); ok != want || ok && impl.CmdText(got) != s || !ok && !sameCmd(got, impl.Cmd{}) {
			t.Fatalf("ReadCmd(%q) = %v, %v", s, got, ok)
		}
		if ok {
			taken[c.Kind]++
		} else {
			refused++
		}
	}
	for kind := int64(1); kind <= kinds; kind++ {
		if taken[kind] < 500 || refused < 5000 {
			t.Errorf("the texts are too much alike: %v and %d", taken, refused)
		}
	}
}

// changeCmd changes a field, whatever the Kind is.
func changeCmd(r *rand.Rand, c *impl.Cmd) {
	number := []int64{-1, 0, 1, 20, 21, 99, 100, impl.MaxScore, impl.MaxScore + 1, -impl.MaxScore, -impl.MaxScore - 1, minInt, maxInt}[r.Intn(13)]
	switch r.Intn(7) {
	case 0:
		c.Kind = number
	case 1:
		c.Kind = 1 + r.Int63n(kinds)
	case 2:
		c.A = number
	case 3:
		c.B = number
	case 4:
		c.T = number
	case 5:
		docs := append(badDocs(), []int64{1}, []int64{2, impl.Missing})
		c.Docs = slices.Repeat([][]int64{docs[r.Intn(len(docs))]}, r.Intn(23))
	case 6:
		c.Text = strings.Repeat([]string{"", "x", "\n"}[r.Intn(3)], 3999+r.Intn(3))
	}
}

// A command is valid if it is the command of a text that the pattern describes.
func TestCmdOkOfChangedCmds(t *testing.T) {
	r := rand.New(rand.NewSource(83))
	pattern := cmdPattern()
	seen := map[bool]int{}
	for range 20000 {
		c := randomCmd(r)
		changeCmd(r, &c)
		want := plainIsCmd(pattern, plainCmdText(c)) && plainNoOthers(c)
		for _, d := range c.Docs {
			want = want && impl.DocOk(d)
		}
		if got := impl.CmdOk(c); got != want {
			t.Fatalf("CmdOk(%v) is %v", c, got)
		}
		if got := impl.CmdText(c); (got != "") != want {
			t.Fatalf("CmdText(%v) is %q", c, got)
		}
		seen[want]++
	}
	if seen[true] < 2000 || seen[false] < 2000 {
		t.Errorf("the commands are too much alike: %v", seen)
	}
}

// plainNoOthers reports whether a command is nothing but what its text shows.
func plainNoOthers(c impl.Cmd) bool {
	only := impl.Cmd{Kind: c.Kind}
	if names(c.Kind, "A") {
		only.A = c.A
	}
	if names(c.Kind, "B") {
		only.B = c.B
	}
	if names(c.Kind, "T") {
		only.T = c.T
	}
	if names(c.Kind, "Docs") {
		only.Docs = c.Docs
	}
	if names(c.Kind, "Text") {
		only.Text = c.Text
	}
	return sameCmd(only, c)
}

// guardCmd is a command with spare capacity behind each of its lists.
func guardCmd(c impl.Cmd) (guarded impl.Cmd, check func(t *testing.T)) {
	before := copyCmd(c)
	docs, checkDocs := guardLists(c.Docs, 77)
	guarded = c
	guarded.Docs = docs
	return guarded, func(t *testing.T) {
		t.Helper()
		checkDocs(t)
		if !sameCmd(guarded, before) {
			t.Errorf("the argument %v was modified: %v", before, guarded)
		}
	}
}

func TestCmdArgumentsStay(t *testing.T) {
	list := badCmds()
	for i, c := range goodCmds() {
		list["good "+strconv.Itoa(i)] = c.c
	}
	for name, c := range list {
		g, check := guardCmd(c)
		ok, text := impl.CmdOk(g), impl.CmdText(g)
		if impl.CmdOk(copyCmd(c)) != ok || impl.CmdText(copyCmd(c)) != text {
			t.Errorf("%s: equal calls have different results", name)
		}
		t.Run(name, check)
	}
}

func TestReadCmdMakesNewLists(t *testing.T) {
	const s = "score 1,2 3,4 - -"
	a, b := cmd(t, s), cmd(t, s)
	for i := range a.Docs {
		want := copyCmd(a)
		spoilList(a.Docs[i], 99)
		spoilList(want.Docs[i], 99)
		if !sameCmd(a, want) {
			t.Errorf("document %d of %v shares memory", i, want)
		}
	}
	spoilList(a.Docs, nil)
	if impl.CmdText(b) != s || impl.CmdText(cmd(t, s)) != s {
		t.Errorf("two results of ReadCmd share memory: %v", b)
	}
}
