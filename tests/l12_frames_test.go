package tests

import (
	"encoding/binary"
	"hash/crc32"
	"math/rand"
	"slices"
	"strings"
	"testing"

	"loop.example/g00762/impl"
)

// plainFrame has no limit.
func plainFrame(data string) string {
	head := binary.BigEndian.AppendUint32(nil, uint32(len(data)))
	head = binary.LittleEndian.AppendUint32(head, crc32.ChecksumIEEE([]byte(data)))
	return string(head) + data
}

func plainTake(s string) ([]string, int64) {
	var list []string
	at := 0
	for len(s)-at >= 8 {
		end := at + 8 + int(binary.BigEndian.Uint32([]byte(s[at:])))
		if end-at > 100008 || end > len(s) || plainFrame(s[at+8:end]) != s[at:end] {
			break
		}
		list, at = append(list, s[at+8:end]), end
	}
	return list, int64(at)
}

func checkTaken(t *testing.T, s string, want []string, end int) {
	t.Helper()
	if got, at := impl.TakeFrames(s); at != int64(end) || !slices.Equal(got, want) {
		t.Errorf("TakeFrames of %d bytes, %.60q, = %d frames and %d instead of %d and %d", len(s), s, len(got), at, len(want), end)
	}
}

func frames(list ...string) string {
	s := ""
	for _, data := range list {
		s += plainFrame(data)
	}
	return s
}

func randomBytes(r *rand.Rand, size int) string {
	b := make([]byte, size)
	r.Read(b)
	return string(b)
}

func TestFrameExamples(t *testing.T) {
	f := impl.FrameOf("abc")
	if f != "\x00\x00\x00\x03\xc2\x41\x24\x35abc" {
		t.Errorf("FrameOf = %q", f)
	}
	checkTaken(t, f+f+"x", []string{"abc", "abc"}, 22)
	// The usual example of the CRC-32 of zip files.
	if got := impl.FrameOf("123456789"); got != "\x00\x00\x00\x09\x26\x39\xf4\xcb123456789" {
		t.Errorf("FrameOf = %q", got)
	}
	if got := impl.FrameOf(""); got != "\x00\x00\x00\x00\x00\x00\x00\x00" {
		t.Errorf("FrameOf of nothing = %q", got)
	}
}

func TestFrameSizes(t *testing.T) {
	r := rand.New(rand.NewSource(111))
	for _, size := range []int{0, 1, 2, 3, 4, 7, 8, 9, 127, 128, 255, 256, 257, 4095, 65535, 65536, 65537, 99999, 100000} {
		for _, data := range []string{randomBytes(r, size), strings.Repeat("\x00", size), strings.Repeat("\xff", size)} {
			f := impl.FrameOf(data)
			if f != plainFrame(data) {
				t.Errorf("FrameOf of %d bytes begins with %.20q", size, f)
			}
			checkTaken(t, f, []string{data}, size+8)
			checkTaken(t, f+f, []string{data, data}, 2*size+16)
			if size > 0 {
				checkTaken(t, f[:len(f)-1], nil, 0)
			}
		}
	}
	for _, size := range []int{100001, 100002, 131072, 1 << 20, 1<<24 + 3} {
		data := randomBytes(r, size)
		if got := impl.FrameOf(data); got != "" {
			t.Errorf("FrameOf of %d bytes has %d bytes", size, len(got))
		}
		checkTaken(t, plainFrame(data), nil, 0)
		checkTaken(t, frames("a")+plainFrame(data)+frames("b"), []string{"a"}, 9)
	}
}

func TestFrameOfEachByte(t *testing.T) {
	for i := range 256 {
		for _, data := range []string{string([]byte{byte(i)}), string([]byte{byte(i), 0}), string([]byte{0, byte(i)}), string([]byte{1, byte(i), byte(i)})} {
			if got := impl.FrameOf(data); got != plainFrame(data) {
				t.Errorf("FrameOf(%q) = %q", data, got)
			}
		}
	}
}

func TestTakeFramesWithoutFrames(t *testing.T) {
	for _, s := range []string{
		"", "x", "abc", "\x00", strings.Repeat("\x00", 7), "\x00\x00\x00\x00\x00\x00\x00\x01", "\x00\x00\x00\x01\x00\x00\x00\x00", "\x01\x00\x00\x00\x00\x00\x00\x00",
		"\xff\xff\xff\xff\x00\x00\x00\x00", "\xff\xff\xff\xff\xff\xff\xff\xff", "\x80\x00\x00\x00\x00\x00\x00\x00", "\x7f\xff\xff\xff\x00\x00\x00\x00abc",
		"\x00\x01\x86\xa1" + strings.Repeat("\x00", 200000), "\xff\xff\xff\xf8" + strings.Repeat("\x00", 100), strings.Repeat("x", 200000),
		"x" + frames("abc"), " " + frames("abc"), frames("abc")[1:], "\x00" + frames("abc"),
		"\x03\x00\x00\x00\xc2\x41\x24\x35abc", "\x00\x00\x00\x03\x35\x24\x41\xc2abc", "\x00\x00\x00\x03\x3d\xbe\xdb\xcaabc", "\x00\x00\x00\x03\xc2\x41\x24\x35abC",
		"\x00\x00\x00\x03\xc2\x41\x24\x35ab", "\x00\x00\x00\x04\xc2\x41\x24\x35abc", "\x00\x00\x00\x02\xc2\x41\x24\x35abc", "\x00\x00\x00\x04\xc2\x41\x24\x35abcd",
		"\xc2\x41\x24\x35\x00\x00\x00\x03abc", "\x00\x00\x00\x00\xc2\x41\x24\x35abc",
	} {
		checkTaken(t, s, nil, 0)
		checkTaken(t, frames("first")+s, append([]string{"first"}, nil...), 13)
	}
}

func TestTakeManyFrames(t *testing.T) {
	checkTaken(t, strings.Repeat("\x00", 200000), make([]string, 25000), 200000)
	checkTaken(t, strings.Repeat("\x00", 200007), make([]string, 25000), 200000)
	checkTaken(t, frames("", "a", "", "b", ""), []string{"", "a", "", "b", ""}, 42)
	big := strings.Repeat("z", 100000)
	checkTaken(t, frames(big, "", big), []string{big, "", big}, 200024)
	// A frame within a frame is data.
	checkTaken(t, frames(frames("abc")), []string{frames("abc")}, 19)
}

// The frames before the place where the text ends are taken.
func TestTruncatedFrames(t *testing.T) {
	list := []string{"abc", "", "x", "0 plan 1 1", strings.Repeat("\x00", 30), "\xff\xff"}
	s := frames(list...)
	for size := range len(s) + 1 {
		end, count := 0, 0
		for count < len(list) && end+8+len(list[count]) <= size {
			end += 8 + len(list[count])
			count++
		}
		checkTaken(t, s[:size], list[:count], end)
		checkTaken(t, s+s[:size], slices.Concat(list, list[:count]), len(s)+end)
	}
}

// Each bit that is wrong ends the frames.
func TestSpoiltFrames(t *testing.T) {
	list := []string{"abc", "0 plan 1 1", "x", "zz"}
	s := frames(list...)
	for at := range s {
		end, count := 0, 0
		for end+8+len(list[count]) <= at {
			end += 8 + len(list[count])
			count++
		}
		for bit := range 8 {
			b := []byte(s)
			b[at] ^= 1 << bit
			checkTaken(t, string(b), list[:count], end)
		}
		checkTaken(t, s[:at]+s[at+1:], list[:count], end)
	}
}

func TestRandomFrames(t *testing.T) {
	r := rand.New(rand.NewSource(112))
	counts := map[int]int{}
	for range 20000 {
		var list []string
		for range r.Intn(6) {
			list = append(list, randomBytes(r, r.Intn(12)))
		}
		s := frames(list...)
		for i, data := range list {
			if impl.FrameOf(data) != plainFrame(data) {
				t.Fatalf("FrameOf(%q) = %q", data, impl.FrameOf(data))
			}
			checkTaken(t, frames(list[:i]...), list[:i], len(frames(list[:i]...)))
		}
		if r.Intn(4) > 0 {
			s = mutated(r, s, "\x00\x00\x01\x08\xffx")
		}
		want, end := plainTake(s)
		checkTaken(t, s, want, int(end))
		counts[len(want)]++
	}
	for count := range 5 {
		if counts[count] < 500 {
			t.Errorf("the frames are too much alike: %v", counts)
		}
	}
}

func TestTakeFramesMakesNewLists(t *testing.T) {
	s := frames("a", "b", "c")
	got, _ := impl.TakeFrames(s)
	spoilList(got, "spoilt")
	checkTaken(t, s, []string{"a", "b", "c"}, 27)
}
