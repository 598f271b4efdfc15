package tests

import (
	"fmt"
	"math/rand"
	"regexp"
	"slices"
	"strconv"
	"strings"
	"testing"

	"loop.example/g00762/impl"
)

func plainInt(word string) int64 {
	x, err := strconv.Atoi(word)
	if err != nil {
		return impl.Missing
	}
	return int64(x)
}

// plainRead takes a command apart, of which the text is known to be valid.
func plainRead(s string) impl.Cmd {
	if text, ok := strings.CutPrefix(s, "load "); ok {
		return loadCmd(text)
	}
	words := strings.Split(s, " ")
	var c impl.Cmd
	rest := words[1:]
	switch words[0] {
	case "plan":
		return impl.Cmd{Kind: impl.CmPlan, A: plainInt(words[1]), B: plainInt(words[2])}
	case "score":
		c.Kind = impl.CmScore
	case "class":
		c.Kind, c.T, rest = impl.CmClass, plainInt(words[1]), words[2:]
	case "top":
		c.Kind, c.A, rest = impl.CmTop, plainInt(words[1]), words[2:]
	}
	for _, word := range rest {
		var d []int64
		for _, part := range strings.Split(word, ",") {
			d = append(d, plainInt(part))
		}
		c.Docs = append(c.Docs, d)
	}
	return c
}

// plainQuery is the output of a line that is no command.
func plainQuery(m impl.Machine, cost int64, words []string) string {
	trimmed := func(list []int64) string { return strings.Trim(fmt.Sprint(list), "[]") }
	switch {
	case len(words) == 2 && words[0] == "region" && plainDoc(words[1]):
		region, ok := impl.RegionOf(m.E, plainRead("score " + words[1]).Docs[0])
		if !ok {
			return "none"
		}
		return plainBoxText(region)
	case len(words) != 1:
		return "what"
	case words[0] == "cost":
		return fmt.Sprint(cost)
	case words[0] == "span" && !m.Ready:
		return "0 0"
	case words[0] == "span":
		least, greatest := plainSpan(m.E)
		return fmt.Sprint(least, greatest)
	case words[0] == "plan" && len(m.P.Order) == 0:
		return "none"
	case words[0] == "plan":
		return trimmed(m.P.Order)
	case words[0] == "cached":
		return fmt.Sprint(len(m.C.Slots))
	}
	return "what"
}

// plainScript returns the output of each line; that of lines without words is "".
func plainScript(pattern *regexp.Regexp, lines []string) []string {
	var m impl.Machine
	cost := int64(0)
	var list []string
	for _, line := range lines {
		words := slices.DeleteFunc(strings.Split(line, " "), func(word string) bool { return word == "" })
		joined := strings.Join(words, " ")
		switch {
		case len(words) == 0:
			list = append(list, "")
		case plainIsCmd(pattern, joined):
			var a impl.Answer
			m, a = plainStep(m, plainRead(joined))
			cost = a.Cost
			list = append(list, plainAnswerText(a)+"\n")
		default:
			list = append(list, plainQuery(m, cost, words)+"\n")
		}
	}
	return list
}

// scriptOf ends each line.
func scriptOf(lines []string) string {
	if len(lines) == 0 {
		return ""
	}
	return strings.Join(lines, "\n") + "\n"
}

func fits(lines []string) bool {
	return len(lines) <= impl.MaxScript && len(scriptOf(lines)) <= impl.MaxText
}

func randomQuery(r *rand.Rand, feats int) string {
	if r.Intn(3) == 0 {
		return "region " + impl.DocText(randomDoc(r, feats))
	}
	return []string{"cost", "span", "plan", "cached"}[r.Intn(4)]
}

func randomLine(r *rand.Rand, feats int) string {
	line := randomQuery(r, feats)
	switch r.Intn(8) {
	case 0:
		line = ""
	case 1, 2, 3, 4:
		// A command that is not valid has no text, and one with line feeds more lines.
		line = strings.ReplaceAll(impl.CmdText(machineCmd(r, feats)), "\n", " ")
	}
	if r.Intn(6) == 0 {
		line = mutated(r, line, "019-, \t\rplcx|")
	}
	if r.Intn(3) == 0 {
		line = strings.ReplaceAll(line, " ", strings.Repeat(" ", 1+r.Intn(2)))
		line = strings.Repeat(" ", r.Intn(3)) + line + strings.Repeat(" ", r.Intn(3))
	}
	return line
}

// smallEns is the text of an ensemble that leaves room for further lines.
func smallEns(r *rand.Rand, feats int) string {
	for {
		if s := plainEnsText(boxyEns(r, feats)); len(s) < 1000 {
			return s
		}
	}
}

// randomLines are as many lines as wanted, but fewer if they have too many bytes.
func randomLines(r *rand.Rand, count int) []string {
	feats := 1 + r.Intn(3)
	lines := make([]string, r.Intn(3), count+3)
	if r.Intn(10) > 0 {
		lines = append(lines, "load "+smallEns(r, feats))
	}
	for len(lines) < count && fits(lines) {
		lines = append(lines, randomLine(r, feats))
	}
	for !fits(lines) {
		lines = lines[:len(lines)-1]
	}
	return lines
}

func TestScriptsOfAnyLines(t *testing.T) {
	r := rand.New(rand.NewSource(141))
	pattern := cmdPattern()
	firsts := map[string]int{}
	for range 600 {
		lines := randomLines(r, r.Intn(impl.MaxScript+1))
		list := plainScript(pattern, lines)
		if got, want := impl.RunScript(scriptOf(lines)), strings.Join(list, ""); got != want {
			t.Fatalf("RunScript(%q) = %q instead of %q", scriptOf(lines), got, want)
		}
		for _, output := range list {
			first, _, _ := strings.Cut(output, " ")
			firsts[strings.TrimSpace(first)+fmt.Sprint(strings.Count(output, ".."))]++
			if strings.HasPrefix(output, "no ") {
				firsts[output]++
			}
		}
	}
	for _, first := range []string{"0", "ok0", "what0", "none0", "00", "no 2\n", "no 3\n", "no 4\n", "no 5\n"} {
		if firsts[first] < 50 {
			t.Errorf("the scripts are too much alike: %q appears %d times in %v", first, firsts[first], len(firsts))
		}
	}
}

func TestFirstLinesOfAScript(t *testing.T) {
	r := rand.New(rand.NewSource(142))
	for range 60 {
		lines := randomLines(r, impl.MaxScript)
		all := impl.RunScript(scriptOf(lines))
		counts := 0
		for count := range len(lines) + 1 {
			got := impl.RunScript(scriptOf(lines[:count]))
			if !strings.HasPrefix(all, got) || strings.Count(got, "\n") < counts {
				t.Fatalf("%d lines: %q, and all of %q: %q", count, got, scriptOf(lines), all)
			}
			if count > 0 && strings.Trim(lines[count-1], " ") != "" {
				counts++
			}
			if strings.Count(got, "\n") != counts {
				t.Fatalf("%d lines of %q: %q", count, scriptOf(lines), got)
			}
		}
		more := append(slices.Clone(lines), slices.Repeat([]string{""}, impl.MaxScript+1-len(lines))...)
		if got := impl.RunScript(scriptOf(more)); got != tooLong {
			t.Fatalf("RunScript(%q) = %q", scriptOf(more), got)
		}
	}
}

// isQuery reports whether a line is a query or has no words.
func isQuery(line string) bool {
	first := strings.Trim(line, " ")
	return first == "" || slices.Contains([]string{"cost", "span", "plan", "cached"}, first) || strings.HasPrefix(first, "region ")
}

// All other lines have the same output, and the last query of a script has the
// same one whether or not there are others before it.
func TestQueriesChangeNothing(t *testing.T) {
	r := rand.New(rand.NewSource(143))
	pattern := cmdPattern()
	removed := 0
	for range 300 {
		lines := randomLines(r, impl.MaxScript)
		list := plainScript(pattern, lines)
		var rest []string
		want := ""
		for i, line := range lines {
			if isQuery(line) {
				removed++
				if got := impl.RunScript(scriptOf(append(slices.Clone(rest), line))); got != want+list[i] {
					t.Fatalf("%q behind %q: %q instead of %q", line, scriptOf(rest), got, want+list[i])
				}
				continue
			}
			rest = append(rest, line)
			want += list[i]
		}
		if got := impl.RunScript(scriptOf(rest)); got != want {
			t.Fatalf("RunScript(%q) = %q instead of %q", scriptOf(rest), got, want)
		}
	}
	if removed < 3000 {
		t.Errorf("only %d lines were queries", removed)
	}
}

// The same lines, once more with queries between all of them.
func TestScriptsWithMoreQueries(t *testing.T) {
	r := rand.New(rand.NewSource(144))
	pattern := cmdPattern()
	compared := 0
	for range 300 {
		feats := 1 + r.Intn(3)
		lines := []string{"load " + smallEns(r, feats)}
		for len(lines) < 12 {
			lines = append(lines, randomLine(r, feats))
		}
		var more []string
		var at []int
		for _, line := range lines {
			at = append(at, len(more))
			more = append(more, line)
			for range r.Intn(4) {
				more = append(more, randomQuery(r, feats))
			}
		}
		if !fits(more) {
			continue
		}
		compared++
		list := plainScript(pattern, more)
		want := ""
		for _, i := range at {
			want += list[i]
		}
		if got := impl.RunScript(scriptOf(lines)); got != want {
			t.Fatalf("RunScript(%q) = %q instead of %q", scriptOf(lines), got, want)
		}
		if got, want := impl.RunScript(scriptOf(more)), strings.Join(list, ""); got != want {
			t.Fatalf("RunScript(%q) = %q instead of %q", scriptOf(more), got, want)
		}
	}
	if compared < 100 {
		t.Errorf("only %d scripts were short enough", compared)
	}
}

// The commands of a script are those of Play.
func TestScriptsPlay(t *testing.T) {
	r := rand.New(rand.NewSource(145))
	for range 200 {
		var lines []string
		var list []impl.Cmd
		for _, c := range machineCmds(r, 20) {
			s := impl.CmdText(c)
			if s == "" || !fits(append(slices.Clone(lines), s)) || strings.Contains(s, "  ") || strings.HasSuffix(s, " ") {
				continue
			}
			lines, list = append(lines, s), append(list, c)
		}
		m, answers := impl.Play(list)
		want := ""
		for _, a := range answers {
			want += impl.AnswerText(a) + "\n"
		}
		if got := impl.RunScript(scriptOf(lines)); got != want {
			t.Fatalf("RunScript(%q) = %q instead of %q", scriptOf(lines), got, want)
		}
		least, greatest := impl.SpanOf(m.E)
		queries := append(slices.Clone(lines), "span", "cached")
		want += fmt.Sprintf("%d %d\n%d\n", least, greatest, len(m.C.Slots))
		if got := impl.RunScript(scriptOf(queries)); fits(queries) && got != want {
			t.Fatalf("RunScript(%q) = %q instead of %q", scriptOf(queries), got, want)
		}
	}
}

// A text of any bytes is a script if it has few lines, all of them ended.
func TestScriptsOfAnyBytes(t *testing.T) {
	r := rand.New(rand.NewSource(146))
	pattern := cmdPattern()
	seen := map[bool]int{}
	for range 3000 {
		s := scriptOf(randomLines(r, r.Intn(12)))
		for range r.Intn(3) {
			s = mutated(r, s, "\n\n 1-x\x00\xff\t\r")
		}
		if r.Intn(4) == 0 {
			junk := make([]byte, r.Intn(200))
			r.Read(junk)
			s += string(junk) + "\n"
		}
		if r.Intn(8) == 0 {
			s = s[:r.Intn(len(s)+1)]
		}
		parts := strings.Split(s, "\n")
		lines, behind := parts[:len(parts)-1], parts[len(parts)-1]
		want := tooLong
		if fits(lines) && behind == "" {
			want = strings.Join(plainScript(pattern, lines), "")
		}
		if got := impl.RunScript(s); got != want {
			t.Fatalf("RunScript(%q) = %q instead of %q", s, got, want)
		}
		seen[want == tooLong]++
	}
	if seen[true] < 100 || seen[false] < 1000 {
		t.Errorf("the texts are too much alike: %v", seen)
	}
}

// A script begins with the zero machine, whatever was run before.
func TestEqualScripts(t *testing.T) {
	r := rand.New(rand.NewSource(147))
	for range 150 {
		s := scriptOf(randomLines(r, impl.MaxScript))
		want := impl.RunScript(s)
		impl.RunScript(scriptOf(randomLines(r, impl.MaxScript)))
		if got := impl.RunScript("cost\nspan\nplan\ncached\nregion 1\nscore 1\n"); got != "0\n0 0\nnone\n0\nnone\nno 3\n" {
			t.Fatalf("behind another script: %q", got)
		}
		if got := impl.RunScript(strings.Clone(s)); got != want {
			t.Fatalf("RunScript(%q) is %q and %q", s, want, got)
		}
	}
}
