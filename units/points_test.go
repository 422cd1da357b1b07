package units_test

import (
	"math"
	"slices"
	"strings"
	"testing"
	"unicode/utf16"

	"lintel/api"
	"lintel/units"
)

// P1.1
func TestOf(t *testing.T) {
	for _, c := range []struct {
		text string
		want []uint16
	}{
		{"", nil},
		{"\x00", []uint16{0}},
		{"a\u20ac", []uint16{0x61, 0x20AC}},
		{"\x7f\u0080\u07ff\u0800\uffff", []uint16{0x7F, 0x80, 0x7FF, 0x800, 0xFFFF}},
		{"\ud7ff\ue000", []uint16{0xD7FF, 0xE000}},
		{"\ufffd", []uint16{0xFFFD}},
		{"\U00010000\U0001F600\U0010FFFF", []uint16{0xD800, 0xDC00, 0xD83D, 0xDE00, 0xDBFF, 0xDFFF}},
	} {
		if got := of(t, c.text); got != bytesOf(c.want) {
			t.Errorf("Of(%q): %x", c.text, got)
		}
	}
	if got := of(t, strings.Repeat("a", api.MaxStr+1)); units.Len(got) != api.MaxStr+1 {
		t.Errorf("Of asks for no limit: %d", units.Len(got))
	}
}

// P1.1
func TestOfWrong(t *testing.T) {
	for _, c := range []struct {
		text string
		at   int
	}{
		{"\xff", 0},
		{"ab\xff", 2},
		{"\x80", 0},
		{"a\xbfb", 1},
		{"\xc0\x80", 0},             // 0, not in its shortest form
		{"\xc1\xbf", 0},             // 7F
		{"\xe0\x9f\xbf", 0},         // 7FF
		{"\xf0\x8f\xbf\xbf", 0},     // FFFF
		{"\u20ac\xed\xa0\x80", 3},   // D800
		{"\xed\xbf\xbf", 0},         // DFFF
		{"\xf4\x90\x80\x80", 0},     // 110000
		{"\xf5\x80\x80\x80", 0},     //
		{"\xf8\x88\x80\x80\x80", 0}, // five bytes
		{"a\xe2\x82", 1},            // without its end
		{"\xc3", 0},
		{"\xf0\x9f\x98", 0},
		{"\xe2\x82\xac\xe2\x82a", 3},
		{"\U0001F600\x80", 4},
		{"\ufffd\xff", 3}, // a U+FFFD that stands there is none of it
		{"\xef\xbf", 0},
		{"\xff\ufffd", 0},
	} {
		if got, at, e := units.Of(c.text); got != "" || at != c.at || e != api.ErrUTF {
			t.Errorf("Of(%q): %x, %d, %d", c.text, got, at, e)
		}
	}
}

// forms are the bytes of all code points, by hand: an oracle that does not ask the library.
func forms() map[string]rune {
	all := make(map[string]rune, 0x110000)
	for c := range rune(0x110000) {
		switch {
		case c < 0x80:
			all[string([]byte{byte(c)})] = c
		case c < 0x800:
			all[string([]byte{byte(0xC0 | c>>6), byte(0x80 | c&63)})] = c
		case c >= 0xD800 && c < 0xE000:
		case c < 0x10000:
			all[string([]byte{byte(0xE0 | c>>12), byte(0x80 | c>>6&63), byte(0x80 | c&63)})] = c
		default:
			all[string([]byte{byte(0xF0 | c>>18), byte(0x80 | c>>12&63), byte(0x80 | c>>6&63), byte(0x80 | c&63)})] = c
		}
	}
	return all
}

// ofByForms answers what Of should, by an oracle's forms.
func ofByForms(all map[string]rune, s string) (api.Str, int, api.Errno) {
	var l []uint16
next:
	for at := 0; at < len(s); {
		for n := 1; n <= 4 && at+n <= len(s); n++ {
			if c, ok := all[s[at:at+n]]; ok {
				if c < 0x10000 {
					l = append(l, uint16(c))
				} else {
					l = append(l, uint16(0xD800+(c-0x10000)/0x400), uint16(0xDC00+(c-0x10000)%0x400))
				}
				at += n
				continue next
			}
		}
		return "", at, api.ErrUTF
	}
	return bytesOf(l), 0, api.OK
}

// P1.1, P1.2, P1.9: each code point, and all short texts of the bytes at which something changes.
func TestOfAllForms(t *testing.T) {
	all := forms()
	for s := range all {
		checkOf(t, all, s)
	}
	edges := "\x00A\x7f\x80\x8f\x90\x9f\xa0\xbd\xbf\xc0\xc1\xc2\xdf\xe0\xe1\xed\xee\xef\xf0\xf1\xf4\xf5\xff"
	some := []string{""}
	for range 4 {
		var more []string
		for _, s := range some {
			for i := range len(edges) {
				more = append(more, s+edges[i:i+1])
			}
		}
		some = more
		for _, s := range some {
			checkOf(t, all, s)
		}
	}
}

func checkOf(t *testing.T, all map[string]rune, s string) {
	want, at, e := ofByForms(all, s)
	got, gotAt, gotE := units.Of(s)
	if got != want || gotAt != at || gotE != e {
		t.Fatalf("Of(%q): %x, %d, %d, not %x, %d, %d", s, got, gotAt, gotE, want, at, e)
	}
	if e == api.OK && units.Text(got) != s {
		t.Fatalf("Text of Of(%q): %q", s, units.Text(got))
	}
}

// P1.2
func TestText(t *testing.T) {
	for _, c := range []struct {
		text api.Str
		want string
	}{
		{"", ""},
		{"a", ""},
		{"\x00a\x20\xac", "a\u20ac"},
		{"\x00ab", "a"},
		{"\xd8\x00", "\ufffd"},
		{"\xdf\xff", "\ufffd"},
		{"\xd8\x00\xdc\x00", "\U00010000"},
		{"\xdb\xff\xdf\xff", "\U0010ffff"},
		{"\xd8\x3d\xde\x00\x00!", "\U0001F600!"},
		{"\xd8\x3d\xde", "\ufffd"}, // half a unit behind it
		{"\xdc\x00\xd8\x00", "\ufffd\ufffd"},
		{"\xd8\x00\xd8\x00\xdc\x00\xdc\x00", "\ufffd\U00010000\ufffd"},
		{"\xd7\xff\xdc\x00\xd8\x00\xe0\x00", "\ud7ff\ufffd\ufffd\ue000"},
		{"\xff\xfd", "\ufffd"},
	} {
		if got := units.Text(c.text); got != c.want {
			t.Errorf("Text(%x): %q", c.text, got)
		}
	}
}

// surrogates lists short texts in which surrogates stand in every way.
func surrogates() [][]uint16 {
	return texts(4, 'a', 0xD7FF, 0xD800, 0xDBFF, 0xDC00, 0xDFFF, 0xE000, 0xFFFD)
}

// P1.2, P1.8
func TestTextAndPointsOfSurrogates(t *testing.T) {
	for _, l := range surrogates() {
		s := bytesOf(l)
		if got := units.Text(s); got != string(utf16.Decode(l)) {
			t.Fatalf("Text(%x): %q", l, got)
		}
		var points []rune
		for _, r := range units.Points(s) {
			if r >= 0xD800 && r < 0xE000 {
				r = 0xFFFD
			}
			points = append(points, r)
		}
		if !slices.Equal(points, utf16.Decode(l)) {
			t.Fatalf("Points(%x): %x", l, points)
		}
	}
}

// P1.8
func TestPoints(t *testing.T) {
	s := bytesOf([]uint16{'a', 0xD83D, 0xDE00, 0xDC00, 0xD83D, 0xD83D, 0xDE00, 0xD800})
	wantAt := []int{0, 1, 3, 4, 5, 7}
	wantPoint := []rune{'a', 0x1F600, 0xDC00, 0xD83D, 0x1F600, 0xD800}
	all := units.Points(s + "\xdc")
	for range 2 { // it may be gone over again
		var places []int
		var points []rune
		for at, r := range all {
			places, points = append(places, at), append(points, r)
		}
		if !slices.Equal(places, wantAt) || !slices.Equal(points, wantPoint) {
			t.Errorf("Points: %d, %x", places, points)
		}
		for at := range all { // it may be left
			if at == 1 {
				break
			}
			if at > 1 {
				t.Error("Points goes on behind where it was left")
			}
		}
	}
	for at, r := range units.Points("x") {
		t.Errorf("Points of an odd byte: %d, %x", at, r)
	}
}

// P1.8
func TestPoint(t *testing.T) {
	for r := range rune(0x110000) {
		want := []uint16{uint16(r)}
		if r >= 0x10000 {
			want = []uint16{uint16(0xD800 + (r-0x10000)/0x400), uint16(0xDC00 + (r-0x10000)%0x400)}
		}
		if got := units.Point(r); got != bytesOf(want) {
			t.Fatalf("Point(%x): %x", r, got)
		}
	}
	for _, r := range []rune{-1, math.MinInt32, 0x110000, math.MaxInt32} {
		if got := units.Point(r); got != "" {
			t.Errorf("Point(%d): %x", r, got)
		}
	}
}

// P1.9, P1.10
func TestThereAndBack(t *testing.T) {
	for _, l := range surrogates() {
		s := bytesOf(l)
		if got := units.Make(units.Units(s)); got != s {
			t.Fatalf("Make of Units of %x: %x", s, got)
		}
		var together api.Str
		lone := false
		for _, r := range units.Points(s) {
			together += units.Point(r)
			lone = lone || r >= 0xD800 && r < 0xE000
		}
		if together != s {
			t.Fatalf("Points of %x, put together: %x", s, together)
		}
		if got := of(t, units.Text(s)); (got == s) == lone {
			t.Fatalf("Of of Text of %x: %x", s, got)
		}
	}
}
