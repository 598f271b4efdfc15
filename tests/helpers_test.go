package tests

import (
	"math/rand"
	"slices"
	"strings"
	"testing"

	"loop.example/g00762/impl"
)

const (
	minInt = -1 << 63
	maxInt = 1<<63 - 1
)

// guarded is a list with spare capacity, so that a test can see any write to
// the list or to the memory behind it.
type guarded[T comparable] struct {
	whole []T
	list  []T
}

func guard[T comparable](list []T, filler T) guarded[T] {
	whole := append(slices.Clone(list), filler, filler, filler)
	return guarded[T]{whole: whole, list: whole[:len(list)]}
}

func (g guarded[T]) check(t *testing.T, list []T, filler T) {
	t.Helper()
	if !slices.Equal(g.whole, append(slices.Clone(list), filler, filler, filler)) {
		t.Errorf("the argument %v was modified: %v", list, g.whole)
	}
}

// guardLists are lists with spare capacity behind each of them and behind the last one.
func guardLists[T comparable](lists [][]T, filler T) (guardeds [][]T, check func(t *testing.T)) {
	var before [][]T
	var inner []guarded[T]
	outer := make([][]T, 0, len(lists)+3)
	for _, list := range lists {
		g := guard(list, filler)
		before, inner, outer = append(before, slices.Clone(list)), append(inner, g), append(outer, g.list)
	}
	return outer, func(t *testing.T) {
		t.Helper()
		if !slices.EqualFunc(outer, before, slices.Equal[[]T]) {
			t.Errorf("the argument %v was modified: %v", before, outer)
		}
		for i, g := range inner {
			g.check(t, before[i], filler)
		}
		for _, behind := range outer[len(outer):cap(outer)] {
			if behind != nil {
				t.Errorf("the memory behind the lists of %v was modified", before)
			}
		}
	}
}

// spoilList writes to all memory of a list, also to what is behind it.
func spoilList[T any](list []T, filler T) {
	for i := range list[:cap(list)] {
		list[:cap(list)][i] = filler
	}
}

// randomDoc prefers small numbers, limits and Missing.
func randomDoc(r *rand.Rand, size int) []int64 {
	d := make([]int64, size)
	for i := range d {
		d[i] = randomNum(r)
	}
	return d
}

func randomNum(r *rand.Rand) int64 {
	switch r.Intn(8) {
	case 0:
		return impl.Missing
	case 1:
		return impl.MaxFeat
	case 2:
		return -impl.MaxFeat
	case 3:
		return r.Int63n(2*impl.MaxFeat+1) - impl.MaxFeat
	}
	return r.Int63n(9) - 4
}

// randomTree turns leaves into splits until the tree has the wanted size, and
// then spreads the nodes over the list in an order in which they may appear.
func randomTree(r *rand.Rand, splits int, feats int) []impl.Node {
	type link struct{ left, right int }
	links := []link{{}}
	leaves := []int{0}
	for range splits {
		at := r.Intn(len(leaves))
		node := leaves[at]
		left := len(links)
		links = append(links, link{}, link{})
		links[node] = link{left, left + 1}
		if r.Intn(2) == 0 {
			links[node] = link{left + 1, left}
		}
		leaves[at] = left
		leaves = append(leaves, left+1)
	}
	place := make([]int64, len(links))
	ready := []int{0}
	for next := int64(0); len(ready) > 0; next++ {
		at := r.Intn(len(ready))
		node := ready[at]
		ready = slices.Delete(ready, at, at+1)
		place[node] = next
		if links[node].left != 0 {
			ready = append(ready, links[node].left, links[node].right)
		}
	}
	t := make([]impl.Node, len(links))
	for node, l := range links {
		if l.left == 0 {
			t[place[node]] = impl.Node{Value: r.Int63n(2*impl.MaxValue+1) - impl.MaxValue}
			continue
		}
		t[place[node]] = impl.Node{
			Feat: int64(r.Intn(feats)), Cut: r.Int63n(9) - 4, Miss: r.Intn(2) == 0,
			Left: place[l.left], Right: place[l.right],
		}
	}
	return t
}

// randomEns has 0..MaxTrees trees.
func randomEns(r *rand.Rand, feats int) impl.Ens {
	e := impl.Ens{Feats: int64(feats), Bias: r.Int63n(2*impl.MaxValue+1) - impl.MaxValue}
	for range r.Intn(impl.MaxTrees + 1) {
		e.Trees = append(e.Trees, randomTree(r, r.Intn(8), feats))
	}
	return e
}

func sameEns(a, b impl.Ens) bool {
	return a.Feats == b.Feats && a.Bias == b.Bias && slices.EqualFunc(a.Trees, b.Trees, slices.Equal[[]impl.Node])
}

// copyEns returns an ensemble that shares no memory with e.
func copyEns(e impl.Ens) impl.Ens {
	trees := make([][]impl.Node, len(e.Trees))
	for i, x := range e.Trees {
		trees[i] = slices.Clone(x)
	}
	e.Trees = trees
	return e
}

// mutated changes a text in a few places, with bytes of the given alphabet.
func mutated(r *rand.Rand, s string, alphabet string) string {
	for range 1 + r.Intn(2) {
		at := r.Intn(len(s) + 1)
		c := string(alphabet[r.Intn(len(alphabet))])
		end := min(len(s), at+r.Intn(2))
		switch r.Intn(3) {
		case 0:
			s = s[:at] + s[end:]
		case 1:
			s = s[:at] + c + s[end:]
		case 2:
			s = s[:at] + c + s[at:]
		}
	}
	return s
}

// badNumbers are words that are not numbers in decimal.
func badNumbers() []string {
	return []string{
		"", "-", "--1", "+1", "-0", "00", "01", "-01", "1_0", "0x1", "1e2", "1.0", " 1", "1 ", "1\n", "\x00",
		"a", "\u0661", "9223372036854775808", "-9223372036854775809", "10000000000000000000",
		"00000000000000000001", strings.Repeat("9", 100), strings.Repeat("0", 20),
	}
}
