package impl

import (
	"strconv"
	"strings"
)

const (
	MaxFeats = 6
	MaxFeat  = 1000000
	Missing  = 9999999
)

// doc holds a document as a value, so that two of them can be compared as a
// whole. The elements of nums from size on are 0.
type doc struct {
	nums [MaxFeats]int64
	size int64
}

// docOf returns the document with the numbers of a list, and whether there is one.
func docOf(list []int64) (doc, bool) {
	if len(list) < 1 || len(list) > MaxFeats {
		return doc{}, false
	}
	d := doc{size: int64(len(list))}
	copy(d.nums[:], list)
	if !d.inRange() {
		return doc{}, false
	}
	return d, true
}

// inRange reports whether d is its own nearest document.
func (d doc) inRange() bool {
	return d.nums == d.clamped().nums
}

func (d doc) clamped() doc {
	for i, x := range d.nums {
		if x != Missing {
			d.nums[i] = min(max(x, -MaxFeat), MaxFeat)
		}
	}
	return d
}

func (d doc) list() []int64 {
	list := make([]int64, d.size)
	copy(list, d.nums[:])
	return list
}

func DocOk(d []int64) bool {
	_, ok := docOf(d)
	return ok
}

func GoneOf(d []int64) int64 {
	x, ok := docOf(d)
	if !ok {
		return -1
	}
	gone := int64(0)
	for _, n := range x.nums {
		if n == Missing {
			gone++
		}
	}
	return gone
}

func DocText(d []int64) string {
	x, ok := docOf(d)
	if !ok {
		return ""
	}
	words := make([]string, x.size)
	for i := range words {
		words[i] = numText(x.nums[i])
	}
	return strings.Join(words, ",")
}

func numText(x int64) string {
	if x == Missing {
		return "-"
	}
	return decimal(x)
}

func ReadDoc(s string) ([]int64, bool) {
	// One part more than a document can have is enough to reject the text.
	words := strings.SplitN(s, ",", MaxFeats+1)
	list := make([]int64, len(words))
	for i, word := range words {
		x, ok := readNum(word)
		if !ok {
			return nil, false
		}
		list[i] = x
	}
	if !DocOk(list) {
		return nil, false
	}
	return list, true
}

// readNum rejects the digits of Missing, because numText never writes them.
func readNum(word string) (int64, bool) {
	if word == "-" {
		return Missing, true
	}
	x, ok := readDecimal(word)
	if !ok || x == Missing {
		return 0, false
	}
	return x, true
}

func DocWith(d []int64, i int64, x int64) ([]int64, bool) {
	changed, ok := docOf(d)
	if !ok || i < 0 || i >= changed.size {
		return nil, false
	}
	changed.nums[i] = x
	if !changed.inRange() {
		return nil, false
	}
	return changed.list(), true
}

func decimal(x int64) string {
	return strconv.FormatInt(x, 10)
}

// readDecimal reads a number in exactly the form that decimal writes.
// ParseInt alone would also accept a plus sign, leading zeros and -0.
func readDecimal(word string) (int64, bool) {
	x, err := strconv.ParseInt(word, 10, 64)
	if err != nil || decimal(x) != word {
		return 0, false
	}
	return x, true
}
