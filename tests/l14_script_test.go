package tests

import (
	"slices"
	"strings"
	"testing"

	"loop.example/g00762/impl"
)

// tooLong is the output of a text that is no script.
const tooLong = "too long\n"

// talk is a script with the output of each of its lines. A line that has none has "".
type talk []struct{ line, output string }

func (k talk) text() (script, output string) {
	for _, x := range k {
		script += x.line + "\n"
		if x.output != "" {
			output += x.output + "\n"
		}
	}
	return script, output
}

// checkTalk compares the output of all lines, and of the first ones alone.
func checkTalk(t *testing.T, k talk) {
	t.Helper()
	for count := range len(k) + 1 {
		script, want := k[:count].text()
		if got := impl.RunScript(script); got != want {
			t.Fatalf("RunScript(%.300q) = %q instead of %q", script, got, want)
		}
	}
}

func TestScriptLimits(t *testing.T) {
	if impl.MaxScript != 40 || impl.MaxText != 6000 {
		t.Error("a limit is different")
	}
}

func TestScriptExamples(t *testing.T) {
	checkTalk(t, talk{{"cost", "0"}, {"", ""}, {"  ", ""}, {" span ", "0 0"}, {"plan", "none"}, {"cached", "0"}, {"region 1", "none"}})
	checkTalk(t, talk{
		{"score 1", "no 3"}, {"load x", "no 2"}, {"load 1 0", "ok"}, {"score 1 -", "ok 0 0"}, {"class 1 1", "ok 0"}, {"top 2 5 6", "ok 0:0 1:0"},
		{"plan", "none"}, {"region 5", "-1000000..1000000+"}, {"region 5,5", "none"}, {"score", "ok"},
	})
	const example = "cost\n\n  \n span \nplan\ncached\nregion 1\n"
	if got := impl.RunScript(example); got != "0\n0 0\nnone\n0\nnone\n" {
		t.Errorf("RunScript(%q) = %q", example, got)
	}
}

// allQueries are followed by their output.
func allQueries(cost, region, span, plan, cached string) talk {
	return talk{{"cost", cost}, {"region 3", region}, {"span", span}, {"plan", plan}, {"cached", cached}}
}

func TestQueriesAheadOfCommands(t *testing.T) {
	zero := allQueries("0", "none", "0 0", "none", "0")
	checkTalk(t, zero)
	checkTalk(t, append(talk{{"region -", "none"}, {"region 1,2,3,4,5,6", "none"}, {"", ""}, {"what", "what"}}, zero...))
	// Rejected commands leave the machine as it was.
	for _, x := range (talk{
		{"load x", "no 2"}, {"load 1 0 |", "no 2"}, {"load 7 0", "no 2"}, {"score 3", "no 3"}, {"score", "no 3"}, {"class 0 1", "no 3"}, {"top 1 1", "no 3"}, {"plan 1 1", "no 3"}, {"plan 99 0", "no 3"},
	}) {
		checkTalk(t, slices.Concat(talk{x}, zero))
	}
}

func TestQueriesOfALoadedMachine(t *testing.T) {
	checkTalk(t, slices.Concat(
		talk{{"load " + stageEns, "ok"}}, allQueries("0", "3..5", "102 118", "0 1 2", "0"),
		talk{{"score 3 9", "ok 116 102"}}, allQueries("4", "3..5", "102 118", "0 1 2", "2"),
		talk{{"score 3", "ok 116"}}, allQueries("0", "3..5", "102 118", "0 1 2", "2"),
		talk{{"class 103 3 9", "ok 1 0"}}, allQueries("3", "3..5", "102 118", "0 1 2", "2"),
		talk{{"plan 3 2", "ok"}}, allQueries("0", "3..5", "102 118", "1 0 2", "2"),
	))
	checkTalk(t, slices.Concat(
		talk{{"load " + stageEns, "ok"}, {"plan 2 1", "ok"}, {"top 2 9 3 1", "ok 2:118 1:116"}}, allQueries("6", "3..5", "102 118", "0 2 1", "0"),
		talk{{"score 1 -", "ok 118 118"}}, allQueries("2", "3..5", "102 118", "0 2 1", "1"),
		talk{{"load x", "no 2"}}, allQueries("0", "3..5", "102 118", "0 2 1", "1"),
		talk{{"load 2 -5", "ok"}}, allQueries("0", "none", "-5 -5", "none", "0"),
		talk{{"region 3,-", "-1000000..1000000+ -1000000..1000000+"}, {"region -,-,-", "none"}},
	))
}

// The cost of a rejected command is 0, whatever the one before it cost.
func TestQueriesBehindRejectedCommands(t *testing.T) {
	for _, x := range (talk{
		{"load x", "no 2"}, {"load 1", "no 2"}, {"plan 4 1", "no 5"}, {"plan 1 13", "no 5"}, {"plan 0 0", "no 5"}, {"score 1,2", "no 4"}, {"score 3 4 1,2", "no 4"},
		{"class 100 -,-", "no 4"}, {"top 3 1 2,2", "no 4"},
	}) {
		checkTalk(t, slices.Concat(
			talk{{"load " + stageEns, "ok"}, {"plan 2 3", "ok"}, {"score 3", "ok 116"}},
			allQueries("2", "3..5", "102 118", "0 2 1", "1"),
			talk{x},
			allQueries("0", "3..5", "102 118", "0 2 1", "1"),
		))
	}
}

// Lines that are no commands are not the last one, whatever they are.
func TestCostOfTheLastCommand(t *testing.T) {
	k := talk{{"load " + stageEns, "ok"}, {"score 3 9 -", "ok 116 102 118"}}
	for _, x := range (talk{{"cost", "6"}, {"span", "102 118"}, {"plan", "0 1 2"}, {"cached", "3"}, {"region 9", "6..1000000"}, {"region 9,9", "none"}, {"", ""}, {" ", ""}, {"what", "what"}, {"score x", "what"}, {"plan 1", "what"}, {"load", "what"}}) {
		k = append(k, talk{x, {"cost", "6"}}...)
	}
	checkTalk(t, append(k, talk{{"top 0 3", "ok"}, {"cost", "0"}}...))
	checkTalk(t, talk{
		{"load " + planEns, "ok"}, {"score 3 3", "ok 19 19"}, {"cost", "3"}, {"score 4", "ok 19"}, {"cost", "0"}, {"score 6", "ok 6"}, {"cost", "2"}, {"score", "ok"}, {"cost", "0"},
		{"top 1 3 4", "ok 0:19"}, {"cost", "6"}, {"cost", "6"}, {"plan 1 1", "ok"}, {"cost", "0"},
	})
}

func TestQueriesOfLimits(t *testing.T) {
	trees := withTrees("6 1000000", "s5:0:1:2:r l1000000 l-1000000", impl.MaxTrees)
	checkTalk(t, talk{
		{"load " + trees, "ok"},
		{"span", "-11000000 13000000"},
		{"plan", "0 1 2 3 4 5 6 7 8 9 10 11"},
		{"region -,-,-,-,-,-", strings.Repeat("-1000000..1000000+ ", 5) + "1..1000000+"},
		{"region -1000000,0,0,0,0,0", strings.Repeat("-1000000..1000000+ ", 5) + "-1000000..0"},
		{"score -,-,-,-,-,- 0,0,0,0,0,0 1,1,1,1,1,1", "ok -11000000 13000000 -11000000"},
		{"cost", "24"},
		{"cached", "2"},
	})
	checkTalk(t, talk{
		{"load 1 0 | " + chainTree + " | s0:10:1:2:l l0 l100", "ok"},
		{"score 0 1 2 3 4 5 6", "ok 1 2 3 4 5 6 7"}, {"cached", "7"}, {"score 7", "ok 8"}, {"cached", "8"}, {"score 11", "ok 108"}, {"cached", "8"}, {"cost", "8"},
	})
	// Some of these Spans contain one number only, or none.
	checkTalk(t, talk{
		{"load 1 0 | s0:1000000:1:2:r l1 l2", "ok"}, {"region -", "none+"}, {"region 1000000", "-1000000..1000000"}, {"region 0", "-1000000..1000000"},
		{"load 1 0 | s0:5:1:2:l l1 s0:5:3:4:r l2 l3", "ok"}, {"region 5", "-1000000..5+"}, {"region -", "-1000000..5+"}, {"region 6", "6..1000000"},
		{"load 1 0 | s0:5:1:2:r l1 l2 | s0:6:1:2:l l1 l2", "ok"}, {"region 6", "6..6+"}, {"region -", "6..6+"}, {"region 5", "-1000000..5"}, {"region 7", "7..1000000"},
	})
}

// wrongLines are neither commands nor queries.
func wrongLines() []string {
	list := []string{
		"fly", "what", "ok", "x", "-", "1", "1,2", "3:-7", "fly 1", "Cost", "COST", "cost:", "costs", "cos", "spans", "plans", "cache", "cachedd", "regions 1", "regio 1", "region1", "Region 1",
		"cost 1", "cost cost", "cost -", "span 1", "span span", "cached 1", "cached cached", "cached 1 2 3", "plan plan", "plan 1", "plan 1 2 3", "plan cost", "plan -",
		"region", "region region", "region 1 2", "region 1 -", "region 1 1", "region - -", "cost region 1", "1 region", "region plan",
		"load", "load ", "load   ", " load", "Load 1 0", "load\t1 0", "loads 1 0", "1 load 1 0",
		"plan 100 1", "plan 1 100", "plan -1 1", "plan 1 -1", "plan 01 1", "plan 1 01", "plan 1,1", "plan 1 x", "plan + 1", "plan 1 9223372036854775808",
		"score x", "score 1 x", "score 1, 2", "score 1 ,2", "score ,", "score 1000001", "score 9999999", "score -1000001", "score 01", "score +1", "score -0", "score 1,2,3,4,5,6,7",
		"class", "class x", "class - 1", "class 1 x", "class 100000000001", "class -100000000001", "class 01 1", "class 1 01", "class +1 1", "class 1,2",
		"top", "top x", "top 21 1", "top -1 1", "top - 1", "top 1 x", "top 01 1", "top 1,2", "TOP 1",
		"score" + strings.Repeat(" 1", impl.MaxDocs+1), "class 1" + strings.Repeat(" 1", impl.MaxDocs+1), "top 1" + strings.Repeat(" 1", impl.MaxDocs+1),
		"load " + strings.Repeat("x", impl.MaxLoad+1), strings.Repeat("cost ", 100), strings.Repeat("x", 5000),
	}
	for _, d := range append(badNumbers(), "x", ",", "1,", ",1", "1,,2", "1,x", "1000001", "-1000001", "9999999", "1,9999999", "1,2,3,4,5,6,7", "--", "-,", "1;2", "1.5") {
		if d != "" && d != "-" && strings.Trim(d, " \n") != "1" {
			list = append(list, "region "+d, "score "+d, "class 5 1 "+d)
		}
	}
	return list
}

func TestWrongLines(t *testing.T) {
	for _, line := range wrongLines() {
		wrong := talk{{line, "what"}}
		before := talk{{"load " + stageEns, "ok"}, {"plan 2 1", "ok"}, {"score 3", "ok 116"}}
		checkTalk(t, slices.Concat(wrong, allQueries("0", "none", "0 0", "none", "0")))
		checkTalk(t, slices.Concat(before, wrong, allQueries("2", "3..5", "102 118", "0 2 1", "1")))
		checkTalk(t, slices.Concat(before, wrong, talk{{"score 3 9", "ok 116 102"}, {"cost", "2"}}))
	}
}

// A command is read from its words, so that spaces between them do not count,
// but all other bytes belong to words.
func TestSpacesInScripts(t *testing.T) {
	for _, x := range [][2]string{
		{"  load   1  100   |  l7  ", "ok"}, {"load 1 100 | l7", "ok"}, {"load     1 0", "ok"}, {strings.Repeat(" ", 5000) + "load 1 0", "ok"},
		{"load" + strings.Repeat(" ", 5000) + "1 0", "ok"}, {"load 1 0" + strings.Repeat(" ", 5000), "ok"}, {"load 1 0  |", "no 2"},
		{" score ", "no 3"}, {"score   1    2 ", "no 3"}, {"  class   5  ", "no 3"}, {" top  1  2  3", "no 3"}, {"  plan   1   1  ", "no 3"}, {" load  x   y ", "no 2"},
		{" cost", "0"}, {"cost ", "0"}, {"     cost     ", "0"}, {"  plan  ", "none"}, {" span   ", "0 0"}, {"   cached ", "0"}, {"  region   1  ", "none"}, {" what ", "what"}, {"  region  ", "what"},
		{"c ost", "what"}, {"pla n", "what"}, {"region 1, 2", "what"}, {"s core", "what"}, {"load|", "what"},
	} {
		checkTalk(t, talk{{x[0], x[1]}})
	}
	checkTalk(t, talk{
		{"  load   1  100 |   s0:5:1:2:l    l10 l-4 | l7", "ok"}, {" score   3    9 ", "ok 117 103"}, {"  class  104   3  9", "ok 1 0"}, {"   top   1   9   3", "ok 1:117"},
		{" plan    2   1 ", "ok"}, {"  plan ", "0 1"}, {" region    3   ", "-1000000..5+"}, {" ", ""}, {strings.Repeat(" ", 3000), ""}, {"   cost   ", "0"},
	})
}

func TestOtherBytesInScripts(t *testing.T) {
	for _, c := range []string{"\t", "\r", "\v", "\f", "\x00", "\u00a0", "\u0085", "\u2003", "\u3000", "\xff", "\xa0", "\x85", "\x1f", "_"} {
		checkTalk(t, talk{{c, "what"}, {" " + c + " ", "what"}, {"load 1 0" + c, "no 2"}, {"load " + c, "no 2"}, {"load 1 0 " + c, "no 2"}, {"load" + c + "1 0", "what"}})
		for _, line := range []string{"cost", "span", "plan", "cached", "region 1", "score 1", "plan 1 1", "class 1 1", "top 1 1", "score"} {
			first, rest, _ := strings.Cut(line, " ")
			checkTalk(t, talk{{"load 1 0", "ok"}, {line + c, "what"}, {c + line, "what"}, {line + " " + c, "what"}, {first + c + rest, "what"}, {"score 1", "ok 0"}})
		}
	}
	// A carriage return stays in the word, and a line feed alone ends a line.
	checkTalk(t, talk{{"load 1 7", "ok"}, {"span\r", "what"}, {"\r", "what"}, {"span", "7 7"}, {"load 1 8\r", "no 2"}, {"span", "7 7"}})
}

func TestScriptLines(t *testing.T) {
	for _, line := range []string{"", " ", "cost", "what", "load 1 0", "score 1"} {
		output := impl.RunScript(line + "\n")
		if got := impl.RunScript(strings.Repeat(line+"\n", 40)); got != strings.Repeat(output, 40) {
			t.Errorf("40 times %q: %q", line, got)
		}
		for _, count := range []int{41, 42, 80, 1000} {
			if got := impl.RunScript(strings.Repeat(line+"\n", count)); got != tooLong {
				t.Errorf("%d times %q: %q", count, line, got)
			}
		}
	}
	blank := strings.Repeat("\n", 39)
	for script, want := range map[string]string{
		"": "", "\n": "", "cost\n" + blank: "0\n", blank + "cost\n": "0\n", blank + "what\n": "what\n",
		"\n" + blank + "cost\n": tooLong, blank + "cost\n\n": tooLong, blank + "cost": tooLong, blank: "", blank + "\n": "", blank + "\n\n": tooLong, blank + " ": tooLong,
	} {
		if got := impl.RunScript(script); got != want {
			t.Errorf("RunScript(%q) = %q", script, got)
		}
	}
}

func TestLinesWithoutAnEnd(t *testing.T) {
	for _, line := range []string{"cost", " ", "x", "\r", "\x00", "load 1 0", "region 1", "cost\r"} {
		for _, before := range []string{"", "\n", "cost\n", "load 1 0\nscore 1\n"} {
			if got := impl.RunScript(before + line); got != tooLong {
				t.Errorf("RunScript(%q) = %q", before+line, got)
			}
		}
	}
}

func TestScriptBytes(t *testing.T) {
	space := func(count int) string { return strings.Repeat(" ", count) }
	word := strings.Repeat("x", 5999)
	for _, c := range []struct{ script, want string }{
		{space(5999) + "\n", ""},
		{space(6000) + "\n", tooLong},
		{space(6000), tooLong},
		{space(5995) + "cost\n", "0\n"},
		{space(5996) + "cost\n", tooLong},
		{"cost\n" + space(5994) + "\n", "0\n"},
		{"cost\n" + space(5995) + "\n", tooLong},
		{"cost\n\n" + space(5989) + "span\n", "0\n0 0\n"},
		{"cost\n\n" + space(5990) + "span\n", tooLong},
		{word + "\n", "what\n"},
		{word + "x\n", tooLong},
		{word + "x", tooLong},
		{"\u00e9" + word[2:] + "\n", "what\n"},
		{"\u00e9" + word[1:] + "\n", tooLong},
		{strings.Repeat("x", 100000) + "\n", tooLong},
		{strings.Repeat("cost\n", 100000), tooLong},
		{strings.Repeat(strings.Repeat("x", 149)+"\n", 40), strings.Repeat("what\n", 40)},
		{strings.Repeat(strings.Repeat("x", 149)+"\n", 39) + strings.Repeat("x", 150) + "\n", tooLong},
	} {
		if got := impl.RunScript(c.script); got != c.want {
			t.Errorf("a script of %d bytes: %q instead of %q", len(c.script), got, c.want)
		}
	}
}

// The limit of a load command counts the Text, with one space between two words.
func TestLongLoadsInScripts(t *testing.T) {
	x := func(count int) string { return strings.Repeat("x", count) }
	most := "1 0" + strings.Repeat(" | l1000000", 12)
	for _, c := range [][2]string{
		{"load " + x(4000), "no 2"}, {"load " + x(4001), "what"}, {"  load  " + x(4000) + " ", "no 2"}, {"load " + x(3000) + " " + x(999), "no 2"}, {"load " + x(3000) + " " + x(1000), "what"},
		{"load " + x(3000) + strings.Repeat(" ", 1000) + x(999), "no 2"}, {"load" + strings.Repeat(" ", 1000) + x(4001), "what"}, {"load " + most, "ok"}, {"load " + most + " | l0", "no 2"},
	} {
		checkTalk(t, talk{{c[0], c[1]}})
	}
	tree := "s0:1:1:2:l s0:-1:3:4:r l-1 s0:-999999:5:6:l l4 l5 l-1000000"
	text := withTrees("1 -1000000", tree, impl.MaxTrees)
	checkTalk(t, talk{{"load " + strings.ReplaceAll(text, " ", "    "), "ok"}, {"score -1000000 -", "ok -999940 -999952"}, {"span", "-13000000 -999940"}})
}
