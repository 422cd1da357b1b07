package units_test

import (
	"math"
	"slices"
	"testing"

	"lintel/api"
	"lintel/units"
)

// stands says whether t stands at a place of s.
func stands(s, t []uint16, at int) bool {
	return at >= 0 && at+len(t) <= len(s) && slices.Equal(s[at:at+len(t)], t)
}

// P1.6
func TestFind(t *testing.T) {
	for _, c := range []struct {
		text, part string
		from, want int
	}{
		{"abcabc", "c", 3, 5},
		{"abcabc", "abc", 0, 0},
		{"abcabc", "abc", 1, 3},
		{"abcabc", "abc", 4, -1},
		{"abcabc", "abc", -1, 0},
		{"abcabc", "abc", math.MinInt, 0},
		{"abcabc", "abc", math.MaxInt, -1},
		{"abc", "abcd", 0, -1},
		{"abc", "x", 0, -1},
		{"aab", "ab", 0, 1},
		{"abababc", "ababc", 0, 2},
		{"", "a", 0, -1},
		{"", "", 0, 0},
		{"abc", "", -1, 0},
		{"abc", "", 2, 2},
		{"abc", "", 3, 3},
		{"abc", "", 4, 3},
		{"abc", "", math.MaxInt, 3},
		{"abc", "", math.MinInt, 0},
	} {
		if got := units.Find(of(t, c.text), of(t, c.part), c.from); got != c.want {
			t.Errorf("Find(%q, %q, %d): %d", c.text, c.part, c.from, got)
		}
	}
}

// P1.6
func TestLast(t *testing.T) {
	for _, c := range []struct {
		text, part string
		from, want int
	}{
		{"abcabc", "abc", 2, 0},
		{"abcabc", "abc", 3, 3},
		{"abcabc", "abc", math.MaxInt, 3},
		{"abcabc", "abc", 0, 0},
		{"abcabc", "abc", -1, -1},
		{"abcabc", "abc", math.MinInt, -1},
		{"abcabc", "c", 1, -1},
		{"aaaa", "aa", 9, 2},
		{"aaaa", "aa", 1, 1},
		{"abc", "abcd", 9, -1},
		{"", "a", 0, -1},
		{"", "", 0, 0},
		{"", "", -1, -1},
		{"abc", "", 2, 2},
		{"abc", "", 3, 3},
		{"abc", "", math.MaxInt, 3},
		{"abc", "", -1, -1},
	} {
		if got := units.Last(of(t, c.text), of(t, c.part), c.from); got != c.want {
			t.Errorf("Last(%q, %q, %d): %d", c.text, c.part, c.from, got)
		}
	}
}

// P1.6: all short texts. The units' bytes are such that a part stands at odd bytes, too, where it does not count.
func TestFindAndLastOfAll(t *testing.T) {
	parts := texts(4, 0, 1, 0x100)
	for _, s := range texts(6, 0, 1, 0x100) {
		for _, part := range parts {
			for from := -2; from <= len(s)+2; from++ {
				find, last := -1, -1
				for at := range len(s) + 1 {
					if find < 0 && at >= from && stands(s, part, at) {
						find = at
					}
					if at <= from && stands(s, part, at) {
						last = at
					}
				}
				if len(part) == 0 && from > len(s) {
					find = len(s)
				}
				checkPlaces(t, bytesOf(s), bytesOf(part), from, find, last)
				checkPlaces(t, bytesOf(s)+"\x00", bytesOf(part)+"\x01", from, find, last)
			}
		}
	}
}

func checkPlaces(t *testing.T, s, part api.Str, from, find, last int) {
	if got := units.Find(s, part, from); got != find {
		t.Fatalf("Find(%x, %x, %d): %d, not %d", s, part, from, got, find)
	}
	if got := units.Last(s, part, from); got != last {
		t.Fatalf("Last(%x, %x, %d): %d, not %d", s, part, from, got, last)
	}
}

// P1.6: parts that nearly stand everywhere in a long text are found in a time that its length is worth.
func TestFindAndLastOfLong(t *testing.T) {
	const n = 400000
	long := units.Make(make([]uint16, n))
	part := units.Make(append(make([]uint16, n/2), 1))
	checkPlaces(t, long, part, 0, -1, -1)
	checkPlaces(t, long, part, n, -1, -1)
	checkPlaces(t, long+"\x00\x01", part, n/4, n/2, -1)
	checkPlaces(t, long+"\x00\x01", part, n/2, n/2, n/2)
	checkPlaces(t, "\x00\x01"+long, units.Make(append([]uint16{1}, make([]uint16, n/2)...)), n, -1, 0)
}
