package tests

import (
	"math/rand"
	"slices"
	"strconv"
	"strings"
	"testing"

	"loop.example/g00762/impl"
)

type docCase struct {
	d    []int64
	text string
	gone int64
}

func goodDocs() []docCase {
	return []docCase{
		{[]int64{5, impl.Missing, -3}, "5,-,-3", 1},
		{[]int64{0}, "0", 0},
		{[]int64{impl.Missing}, "-", 1},
		{[]int64{impl.MaxFeat, -impl.MaxFeat}, "1000000,-1000000", 0},
		{[]int64{1, 2, 3, 4, 5, 6}, "1,2,3,4,5,6", 0},
		{[]int64{0, 0, 0, 0, 0, 0}, "0,0,0,0,0,0", 0},
		{slices.Repeat([]int64{impl.Missing}, 6), "-,-,-,-,-,-", 6},
	}
}

func badDocs() [][]int64 {
	return [][]int64{
		nil, {}, {1, 2, 3, 4, 5, 6, 7}, make([]int64, 7), make([]int64, 1000), slices.Repeat([]int64{impl.Missing}, 7),
		{impl.MaxFeat + 1}, {-impl.MaxFeat - 1}, {impl.Missing - 1}, {impl.Missing + 1}, {-impl.Missing},
		{minInt}, {maxInt}, {0, impl.MaxFeat + 1}, {impl.Missing, 0, 0, 0, 0, -impl.MaxFeat - 1},
	}
}

// badDocsOf are not documents with that many numbers.
func badDocsOf(size int) [][]int64 {
	list := badDocs()
	for other := range impl.MaxFeats + 2 {
		if other != size {
			list = append(list, make([]int64, other))
		}
	}
	for at := range size {
		for _, x := range []int64{impl.MaxFeat + 1, -impl.MaxFeat - 1, impl.Missing - 1, impl.Missing + 1, minInt, maxInt} {
			d := make([]int64, size)
			d[at] = x
			list = append(list, d)
		}
	}
	return slices.DeleteFunc(list, func(d []int64) bool { return len(d) == size && impl.DocOk(d) })
}

func TestDocLimits(t *testing.T) {
	if impl.MaxFeats != 6 || impl.MaxFeat != 1000000 || impl.Missing != 9999999 {
		t.Error("a constant is different")
	}
}

func TestGoodDocs(t *testing.T) {
	for _, c := range goodDocs() {
		if !impl.DocOk(c.d) {
			t.Errorf("DocOk(%v) is false", c.d)
		}
		if got := impl.GoneOf(c.d); got != c.gone {
			t.Errorf("GoneOf(%v) = %d", c.d, got)
		}
		if got := impl.DocText(c.d); got != c.text {
			t.Errorf("DocText(%v) = %q", c.d, got)
		}
		if got, ok := impl.ReadDoc(c.text); !ok || !slices.Equal(got, c.d) {
			t.Errorf("ReadDoc(%q) = %v, %v", c.text, got, ok)
		}
	}
}

func TestBadDocs(t *testing.T) {
	for _, d := range badDocs() {
		if impl.DocOk(d) {
			t.Errorf("DocOk(%v) is true", d)
		}
		if got := impl.GoneOf(d); got != -1 {
			t.Errorf("GoneOf(%v) = %d", d, got)
		}
		if got := impl.DocText(d); got != "" {
			t.Errorf("DocText(%v) = %q", d, got)
		}
		for i := int64(-1); i <= int64(min(len(d), 8)); i++ {
			if got, ok := impl.DocWith(d, i, 0); ok || len(got) != 0 {
				t.Errorf("DocWith(%v, %d, 0) = %v, %v", d, i, got, ok)
			}
		}
	}
}

func checkNoDoc(t *testing.T, s string) {
	t.Helper()
	if got, ok := impl.ReadDoc(s); ok || len(got) != 0 {
		t.Errorf("ReadDoc(%q) = %v, %v", s, got, ok)
	}
}

func TestReadDocBadForms(t *testing.T) {
	for _, word := range badNumbers() {
		if word == "-" {
			continue
		}
		checkNoDoc(t, word)
		checkNoDoc(t, "1,"+word)
		checkNoDoc(t, word+",1")
		checkNoDoc(t, "-,"+word+",-")
	}
	for _, s := range []string{
		",", "1,", ",1", "1,,2", "1;2", "1, 2", "1 2", "--", "-,--", "- ", "1,2,3,4,5,6,7", "-,-,-,-,-,-,-", "1,2,3,4,5,6,",
		"9999999", "1,9999999", "-9999999", "9999998", "10000000", "1000001", "-1000001", "9223372036854775807", "-9223372036854775808",
		"Missing", strings.Repeat("1,", 1000), strings.Repeat(",", 1000), "0,-0",
	} {
		checkNoDoc(t, s)
	}
}

func TestDocFromText(t *testing.T) {
	r := rand.New(rand.NewSource(1))
	for range 3000 {
		d := randomDoc(r, 1+r.Intn(impl.MaxFeats))
		s := impl.DocText(d)
		if got, ok := impl.ReadDoc(s); !ok || !slices.Equal(got, d) {
			t.Fatalf("ReadDoc(DocText(%v)) = %v, %v", d, got, ok)
		}
	}
}

func TestReadDocOnlyReadsDocTexts(t *testing.T) {
	r := rand.New(rand.NewSource(2))
	taken := 0
	for range 20000 {
		s := mutated(r, impl.DocText(randomDoc(r, 1+r.Intn(impl.MaxFeats))), "0019-, +")
		d, ok := impl.ReadDoc(s)
		if ok != plainDoc(s) {
			t.Fatalf("ReadDoc(%q) = %v, %v", s, d, ok)
		}
		if !ok && len(d) != 0 || ok && impl.DocText(d) != s {
			t.Fatalf("ReadDoc(%q) = %v, %v", s, d, ok)
		}
		if ok {
			taken++
		}
	}
	if taken < 1000 || taken > 19000 {
		t.Errorf("%d texts of 20000 were documents", taken)
	}
}

// plainDoc reports whether s is the text of a document, by comparing each part
// with the only text that a number can have.
func plainDoc(s string) bool {
	parts := strings.Split(s, ",")
	for _, part := range parts {
		x, err := strconv.Atoi(part)
		if part != "-" && (err != nil || strconv.Itoa(x) != part || x < -impl.MaxFeat || x > impl.MaxFeat) {
			return false
		}
	}
	return len(parts) <= impl.MaxFeats
}

func TestDocWithExamples(t *testing.T) {
	d := []int64{5, impl.Missing, -3}
	if got, ok := impl.DocWith(d, 1, 7); !ok || !slices.Equal(got, []int64{5, 7, -3}) {
		t.Error(got, ok)
	}
	if got, ok := impl.DocWith(d, 3, 7); ok || len(got) != 0 {
		t.Error(got, ok)
	}
}

func TestDocWithChangesOneNumber(t *testing.T) {
	for _, c := range goodDocs() {
		for i := range c.d {
			for _, x := range []int64{0, 1, -1, impl.MaxFeat, -impl.MaxFeat, impl.Missing, c.d[i]} {
				want := slices.Clone(c.d)
				want[i] = x
				if got, ok := impl.DocWith(c.d, int64(i), x); !ok || !slices.Equal(got, want) {
					t.Errorf("DocWith(%v, %d, %d) = %v, %v", c.d, i, x, got, ok)
				}
			}
		}
	}
}

func TestDocWithRejects(t *testing.T) {
	for _, c := range goodDocs() {
		size := int64(len(c.d))
		for _, i := range []int64{-1, size, size + 1, impl.MaxFeats, impl.MaxFeats + 1, minInt, maxInt} {
			if got, ok := impl.DocWith(c.d, i, 0); ok || len(got) != 0 {
				t.Errorf("DocWith(%v, %d, 0) = %v, %v", c.d, i, got, ok)
			}
		}
		for _, x := range []int64{impl.MaxFeat + 1, -impl.MaxFeat - 1, impl.Missing - 1, impl.Missing + 1, -impl.Missing, minInt, maxInt} {
			if got, ok := impl.DocWith(c.d, size-1, x); ok || len(got) != 0 {
				t.Errorf("DocWith(%v, %d, %d) = %v, %v", c.d, size-1, x, got, ok)
			}
		}
	}
}

// A number that is not permitted is not repaired by writing over it.
func TestDocWithDoesNotRepair(t *testing.T) {
	if got, ok := impl.DocWith([]int64{1, impl.MaxFeat + 1}, 1, 0); ok || len(got) != 0 {
		t.Error(got, ok)
	}
}

func TestDocArgumentsStay(t *testing.T) {
	lists := badDocs()
	for _, c := range goodDocs() {
		lists = append(lists, c.d)
	}
	for _, list := range lists {
		g := guard(list, 77)
		impl.DocOk(g.list)
		impl.GoneOf(g.list)
		impl.DocText(g.list)
		for i := range int64(3) {
			got, _ := impl.DocWith(g.list, i, 42)
			for j := range got {
				got[j] = 99
			}
			_ = append(got, 99)
		}
		g.check(t, list, 77)
	}
}

func TestReadDocMakesNewLists(t *testing.T) {
	a, _ := impl.ReadDoc("1,2")
	b, _ := impl.ReadDoc("1,2")
	a[0] = 9
	if b[0] != 1 {
		t.Error("two results share memory")
	}
}
