package tests

import (
	"fmt"
	"math/rand"
	"regexp"
	"slices"
	"strings"
	"testing"

	"loop.example/g00762/impl"
)

type hitCase struct {
	h    impl.Hit
	text string
}

func goodHits() []hitCase {
	return []hitCase{
		{impl.Hit{Index: 3, Score: -7}, "3:-7"},
		{impl.Hit{}, "0:0"},
		{impl.Hit{Index: 1, Score: 1}, "1:1"},
		{impl.Hit{Score: -1}, "0:-1"},
		{impl.Hit{Index: 9, Score: 10}, "9:10"},
		{impl.Hit{Index: 10, Score: 9}, "10:9"},
		{impl.Hit{Index: impl.MaxDocs - 1}, "19:0"},
		{impl.Hit{Score: impl.MaxScore}, "0:100000000000"},
		{impl.Hit{Score: -impl.MaxScore}, "0:-100000000000"},
		{impl.Hit{Index: impl.MaxDocs - 1, Score: impl.MaxScore}, "19:100000000000"},
		{impl.Hit{Index: impl.MaxDocs - 1, Score: -impl.MaxScore}, "19:-100000000000"},
		{impl.Hit{Index: 7, Score: impl.MaxScore - 1}, "7:99999999999"},
	}
}

// badHits are beyond a limit.
func badHits() []impl.Hit {
	var list []impl.Hit
	for _, x := range []int64{-1, -2, impl.MaxDocs, impl.MaxDocs + 1, impl.MaxScore, minInt, maxInt} {
		list = append(list, impl.Hit{Index: x}, impl.Hit{Index: x, Score: -7}, impl.Hit{Index: x, Score: impl.MaxScore}, impl.Hit{Index: x, Score: minInt})
	}
	for _, x := range []int64{impl.MaxScore + 1, -impl.MaxScore - 1, 1 << 62, minInt, maxInt} {
		list = append(list, impl.Hit{Score: x}, impl.Hit{Index: 3, Score: x}, impl.Hit{Index: impl.MaxDocs - 1, Score: x}, impl.Hit{Index: impl.MaxDocs, Score: x})
	}
	return list
}

func checkNoHit(t *testing.T, s string) {
	t.Helper()
	if h, ok := impl.ReadHit(s); ok || h != (impl.Hit{}) {
		t.Errorf("ReadHit(%q) = %v, %v", s, h, ok)
	}
}

func TestGoodHits(t *testing.T) {
	for _, c := range goodHits() {
		if got := impl.HitText(c.h); got != c.text {
			t.Errorf("HitText(%v) = %q", c.h, got)
		}
		if h, ok := impl.ReadHit(c.text); !ok || h != c.h {
			t.Errorf("ReadHit(%q) = %v, %v", c.text, h, ok)
		}
	}
}

func TestBadHits(t *testing.T) {
	for _, h := range badHits() {
		if got := impl.HitText(h); got != "" {
			t.Errorf("HitText(%v) = %q", h, got)
		}
		checkNoHit(t, fmt.Sprintf("%d:%d", h.Index, h.Score))
	}
}

func TestReadHitBadForms(t *testing.T) {
	for _, s := range []string{
		"", ":", "::", "1", "-1", "1:", ":1", "1::1", ":1:1", "1:1:", "1:1:1", "::1", "1::", "1 1", "1;1", "1,1", "1.1", "11", "3-7",
		" 1:1", "1:1 ", "1 :1", "1: 1", " 1:1 ", "1:1\n", "\n1:1", "1\t:1", "1:1\x00", "\x001:1", "1\uff1a1", "x:x", "1:1x", "x1:1",
		"01:1", "1:01", "00:0", "0:00", "-0:1", "1:-0", "+1:1", "1:+1", "1:--1", "-1:1", "1:-", "-:1", "20:1", "1:100000000001", "1:-100000000001",
		"18446744073709551616:1", "1:18446744073709551617", "1:9223372036854775807", "9223372036854775807:1", "1:-9223372036854775808",
		strings.Repeat(":", 1000), strings.Repeat("1:1", 1000), "1:" + strings.Repeat("1", 1000), strings.Repeat("0", 1000) + ":1",
	} {
		checkNoHit(t, s)
	}
	for _, x := range badNumbers() {
		checkNoHit(t, x+":1")
		checkNoHit(t, "1:"+x)
		checkNoHit(t, x+":"+x)
	}
}

func randomHit(r *rand.Rand) impl.Hit {
	h := impl.Hit{Index: r.Int63n(impl.MaxDocs), Score: r.Int63n(2001) - 1000}
	if r.Intn(2) == 0 {
		h.Score = r.Int63n(2*impl.MaxScore+1) - impl.MaxScore
	}
	return h
}

func TestHitFromText(t *testing.T) {
	r := rand.New(rand.NewSource(131))
	seen := map[string]impl.Hit{}
	for range 20000 {
		h := randomHit(r)
		s := impl.HitText(h)
		if s != fmt.Sprintf("%d:%d", h.Index, h.Score) {
			t.Fatalf("HitText(%v) = %q", h, s)
		}
		if got, ok := impl.ReadHit(s); !ok || got != h {
			t.Fatalf("ReadHit(%q) = %v, %v", s, got, ok)
		}
		if other, ok := seen[s]; ok && other != h {
			t.Fatalf("%q is the text of %v and %v", s, h, other)
		}
		seen[s] = h
	}
}

func TestReadHitOnlyReadsHitTexts(t *testing.T) {
	r := rand.New(rand.NewSource(132))
	pattern := regexp.MustCompile(`\A(?:[0-9]|1[0-9]):(?:0|-?(?:100000000000|[1-9][0-9]{0,10}))\z`)
	taken, refused := 0, 0
	for range 40000 {
		s := mutated(r, impl.HitText(randomHit(r)), "00129:- +\nx")
		h, ok := impl.ReadHit(s)
		if want := pattern.MatchString(s); ok != want || ok && impl.HitText(h) != s || !ok && h != (impl.Hit{}) {
			t.Fatalf("ReadHit(%q) = %v, %v", s, h, ok)
		}
		if ok {
			taken++
		} else {
			refused++
		}
	}
	if taken < 5000 || refused < 5000 {
		t.Errorf("the texts are too much alike: %d and %d", taken, refused)
	}
}

// A Span need not be one of a box to have a text.
func TestSpanTexts(t *testing.T) {
	for _, c := range []struct {
		lo, hi int64
		text   string
	}{
		{-3, 5, "-3..5"},
		{0, 0, "0..0"},
		{2, 2, "2..2"},
		{-2, -2, "-2..-2"},
		{0, 1, "0..1"},
		{-1, 0, "-1..0"},
		{-impl.MaxFeat, impl.MaxFeat, "-1000000..1000000"},
		{-impl.MaxFeat - 1, impl.MaxFeat + 1, "-1000001..1000001"},
		{impl.MaxFeat + 1, impl.MaxFeat + 2, "1000001..1000002"},
		{impl.Missing, impl.Missing, "9999999..9999999"},
		{minInt, maxInt, "-9223372036854775808..9223372036854775807"},
		{minInt, minInt, "-9223372036854775808..-9223372036854775808"},
		{maxInt, maxInt, "9223372036854775807..9223372036854775807"},
		{1, 0, "none"},
		{0, -1, "none"},
		{5, 4, "none"},
		{-4, -5, "none"},
		{impl.MaxFeat + 1, impl.MaxFeat, "none"},
		{maxInt, minInt, "none"},
		{maxInt, maxInt - 1, "none"},
		{minInt + 1, minInt, "none"},
	} {
		if got := impl.SpanText(impl.Span{Lo: c.lo, Hi: c.hi}); got != c.text {
			t.Errorf("SpanText(%d, %d) = %q", c.lo, c.hi, got)
		}
		if got := impl.SpanText(impl.Span{Lo: c.lo, Hi: c.hi, Gone: true}); got != c.text+"+" {
			t.Errorf("SpanText(%d, %d, Gone) = %q", c.lo, c.hi, got)
		}
	}
	if got := impl.SpanText(impl.Span{Lo: 1, Gone: true}); got != "none+" {
		t.Errorf("SpanText of Missing only is %q", got)
	}
}

func TestBoxTexts(t *testing.T) {
	for _, c := range []struct {
		b    []impl.Span
		text string
	}{
		{[]impl.Span{{Lo: -3, Hi: 5}, {Lo: 1, Gone: true}, {Lo: 2, Hi: 2, Gone: true}}, "-3..5 none+ 2..2+"},
		{exampleBox(), "1..5 -3..3+ none+"},
		{[]impl.Span{{}}, "0..0"},
		{[]impl.Span{goneOnly}, "none+"},
		{[]impl.Span{anything}, "-1000000..1000000+"},
		{[]impl.Span{anyNum, goneOnly}, "-1000000..1000000 none+"},
		{make([]impl.Span, 6), "0..0 0..0 0..0 0..0 0..0 0..0"},
		{slices.Repeat([]impl.Span{goneOnly}, 6), "none+ none+ none+ none+ none+ none+"},
	} {
		if got := impl.BoxText(c.b); got != c.text {
			t.Errorf("BoxText(%v) = %q", c.b, got)
		}
	}
	for _, b := range badBoxes() {
		if got := impl.BoxText(b); got != "" {
			t.Errorf("BoxText(%v) = %q", b, got)
		}
	}
}

// plainBoxText uses none of the text forms of the program.
func plainBoxText(b []impl.Span) string {
	var words []string
	for _, s := range b {
		word := fmt.Sprintf("%d..%d", s.Lo, s.Hi)
		if s.Lo > s.Hi {
			word = "none"
		}
		words = append(words, word+map[bool]string{true: "+"}[s.Gone])
	}
	return strings.Join(words, " ")
}

func TestTextsOfAnyBox(t *testing.T) {
	r := rand.New(rand.NewSource(133))
	boxes := map[string][]impl.Span{}
	add := func(b []impl.Span) {
		s := impl.BoxText(b)
		if s == "" || s != plainBoxText(b) {
			t.Fatalf("BoxText(%v) = %q", b, s)
		}
		if other, ok := boxes[s]; ok && !slices.Equal(other, b) {
			t.Fatalf("%q is the text of %v and %v", s, b, other)
		}
		boxes[s] = b
	}
	for range 20000 {
		add(randomBox(r, 1+r.Intn(impl.MaxFeats)))
	}
	if len(boxes) < 10000 {
		t.Errorf("there are only %d boxes", len(boxes))
	}
}

// All boxes of one and two of these Spans.
func TestDifferentBoxesHaveDifferentTexts(t *testing.T) {
	spans := []impl.Span{goneOnly}
	for lo := int64(-12); lo <= 12; lo++ {
		for hi := lo; hi <= 12; hi++ {
			spans = append(spans, impl.Span{Lo: lo, Hi: hi}, impl.Span{Lo: lo, Hi: hi, Gone: true})
		}
	}
	seen := map[string]bool{}
	add := func(b ...impl.Span) {
		s := impl.BoxText(b)
		if s == "" || seen[s] {
			t.Fatalf("%q is the text of %v and of another box", s, b)
		}
		seen[s] = true
	}
	for _, a := range spans {
		add(a)
		for _, b := range spans {
			add(a, b)
		}
	}
	if len(seen) != len(spans)*(len(spans)+1) {
		t.Errorf("there are %d texts of %d Spans", len(seen), len(spans))
	}
}

func TestAnswerTexts(t *testing.T) {
	for _, c := range []struct {
		a    impl.Answer
		text string
	}{
		{impl.Answer{Nums: []int64{3, -4}, Hits: []impl.Hit{{Index: 2, Score: 9}}}, "ok 3 -4 2:9"},
		{impl.Answer{}, "ok"},
		{impl.Answer{Nums: []int64{}, Hits: []impl.Hit{}}, "ok"},
		{impl.Answer{Cost: 5}, "ok"},
		{impl.Answer{Nums: []int64{0}}, "ok 0"},
		{impl.Answer{Nums: []int64{-1, 0, 1}, Cost: -1}, "ok -1 0 1"},
		{impl.Answer{Hits: []impl.Hit{{}}}, "ok 0:0"},
		{impl.Answer{Hits: hitList(3, -7, 1, 4)}, "ok 3:-7 1:4"},
		{impl.Answer{Nums: []int64{}, Hits: hitList(0, 1)}, "ok 0:1"},
		{impl.Answer{Nums: []int64{minInt, maxInt}}, "ok -9223372036854775808 9223372036854775807"},
		{impl.Answer{Hits: hitList(minInt, maxInt, maxInt, minInt)}, "ok -9223372036854775808:9223372036854775807 9223372036854775807:-9223372036854775808"},
		{impl.Answer{Hits: hitList(-1, impl.MaxScore+1, impl.MaxDocs, 0)}, "ok -1:100000000001 20:0"},
		{impl.Answer{Nums: []int64{impl.Missing}, Hits: hitList(5, 5, 5, 5)}, "ok 9999999 5:5 5:5"},
		{impl.Answer{Nums: make([]int64, 1000), Hits: make([]impl.Hit, 1000)}, "ok" + strings.Repeat(" 0", 1000) + strings.Repeat(" 0:0", 1000)},
	} {
		if got := impl.AnswerText(c.a); got != c.text {
			t.Errorf("AnswerText(%v) = %q", c.a, got)
		}
	}
	for code, text := range map[int64]string{
		impl.MhForm: "no 1", impl.MhText: "no 2", impl.MhNone: "no 3", impl.MhDoc: "no 4", impl.MhPlan: "no 5",
		6: "no 6", 99: "no 99", -1: "no -1", maxInt: "no 9223372036854775807", minInt: "no -9223372036854775808",
	} {
		for _, a := range []impl.Answer{
			{Code: code}, {Code: code, Cost: 7}, {Code: code, Nums: []int64{1, 2}}, {Code: code, Hits: hitList(1, 2)}, {Code: code, Nums: []int64{1}, Hits: hitList(1, 2), Cost: 3},
		} {
			if got := impl.AnswerText(a); got != text {
				t.Errorf("AnswerText(%v) = %q", a, got)
			}
		}
	}
}

func plainAnswerText(a impl.Answer) string {
	if a.Code != 0 {
		return fmt.Sprintf("no %d", a.Code)
	}
	s := "ok"
	for _, x := range a.Nums {
		s += fmt.Sprintf(" %d", x)
	}
	for _, h := range a.Hits {
		s += fmt.Sprintf(" %d:%d", h.Index, h.Score)
	}
	return s
}

func TestTextsOfAnyAnswers(t *testing.T) {
	r := rand.New(rand.NewSource(134))
	for range 100 {
		_, answers := impl.Play(machineCmds(r, 30))
		for _, a := range answers {
			if got := impl.AnswerText(a); got != plainAnswerText(a) {
				t.Fatalf("AnswerText(%v) = %q", a, got)
			}
		}
	}
	for range 2000 {
		a := impl.Answer{Code: r.Int63n(3) * r.Int63n(8), Hits: randomHits(r, r.Intn(4)), Cost: r.Int63()}
		for range r.Intn(4) {
			a.Nums = append(a.Nums, r.Int63()-r.Int63())
		}
		if got := impl.AnswerText(a); got != plainAnswerText(a) {
			t.Fatalf("AnswerText(%v) = %q", a, got)
		}
	}
}

// Also where a text is "", and whether or not there was an equal call before.
func TestTextArgumentsStay(t *testing.T) {
	r := rand.New(rand.NewSource(135))
	boxes := append(badBoxes(), exampleBox())
	for range 200 {
		boxes = append(boxes, randomBox(r, 1+r.Intn(impl.MaxFeats)))
	}
	for _, b := range boxes {
		before := slices.Clone(b)
		g := guard(b, nothing)
		s := impl.BoxText(g.list)
		g.check(t, before, nothing)
		if again := impl.BoxText(before); again != s {
			t.Errorf("BoxText(%v) is %q and %q", before, s, again)
		}
	}
	for range 200 {
		a := impl.Answer{Code: r.Int63n(2), Nums: randomDoc(r, r.Intn(5)), Hits: randomHits(r, r.Intn(5)), Cost: r.Int63n(9)}
		before := copyAnswers([]impl.Answer{a})[0]
		filler := impl.Hit{Index: 77}
		nums, hits := guard(a.Nums, 77), guard(a.Hits, filler)
		s := impl.AnswerText(impl.Answer{Code: a.Code, Nums: nums.list, Hits: hits.list, Cost: a.Cost})
		nums.check(t, before.Nums, 77)
		hits.check(t, before.Hits, filler)
		if again := impl.AnswerText(before); again != s {
			t.Errorf("AnswerText(%v) is %q and %q", before, s, again)
		}
	}
}

func TestEqualTexts(t *testing.T) {
	r := rand.New(rand.NewSource(136))
	for range 2000 {
		h, b := randomHit(r), randomBox(r, 1+r.Intn(impl.MaxFeats))
		s := mutated(r, impl.HitText(h), "00129:- +\nx")
		text, box, span := impl.HitText(h), impl.BoxText(b), impl.SpanText(b[0])
		got, ok := impl.ReadHit(s)
		impl.ReadHit(text)
		impl.BoxText(exampleBox())
		impl.SpanText(goneOnly)
		if again, okAgain := impl.ReadHit(strings.Clone(s)); again != got || okAgain != ok {
			t.Errorf("ReadHit(%q) is %v, %v and %v, %v", s, got, ok, again, okAgain)
		}
		if impl.HitText(h) != text || impl.BoxText(slices.Clone(b)) != box || impl.SpanText(b[0]) != span {
			t.Errorf("equal calls have different results for %v or %v", h, b)
		}
	}
}
