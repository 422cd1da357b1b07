package units_test

import (
	"math"
	"slices"
	"testing"
	"unsafe"

	"lintel/api"
	"lintel/units"
)

// of makes a text of UTF-8 that is known to be good.
func of(t *testing.T, s string) api.Str {
	t.Helper()
	u, at, e := units.Of(s)
	if at != 0 || e != api.OK {
		t.Fatalf("Of(%q): place %d, error %d", s, at, e)
	}
	return u
}

// texts lists all texts of at most most units out of some, with their units.
func texts(most int, some ...uint16) [][]uint16 {
	all := [][]uint16{nil}
	for from := 0; most > 0; most-- {
		to := len(all)
		for _, l := range all[from:to] {
			for _, u := range some {
				all = append(all, append(slices.Clone(l), u))
			}
		}
		from = to
	}
	return all
}

// bytesOf is an oracle for Make, by the document's word of what a text is.
func bytesOf(l []uint16) api.Str {
	var b []byte
	for _, u := range l {
		b = append(b, byte(u/256), byte(u%256))
	}
	return api.Str(b)
}

// P1.3
func TestMakeUnitsLen(t *testing.T) {
	for _, c := range []struct {
		units []uint16
		text  api.Str
	}{
		{nil, ""},
		{[]uint16{}, ""},
		{[]uint16{'a'}, "\x00a"},
		{[]uint16{0x1234, 0xFFFF, 0}, "\x12\x34\xff\xff\x00\x00"},
		{[]uint16{0xDC00, 0xD800}, "\xdc\x00\xd8\x00"},
	} {
		if got := units.Make(c.units); got != c.text {
			t.Errorf("Make(%x): %x", c.units, got)
		}
		for _, odd := range []api.Str{"", "\x00", "\xff"} {
			if got := units.Units(c.text + odd); !slices.Equal(got, c.units) {
				t.Errorf("Units(%x): %x", c.text+odd, got)
			}
			if got := units.Len(c.text + odd); got != len(c.units) {
				t.Errorf("Len(%x): %d", c.text+odd, got)
			}
		}
	}
	long := make([]uint16, api.MaxStr+1)
	if s := units.Make(long); units.Len(s) != api.MaxStr+1 || len(units.Units(s)) != api.MaxStr+1 {
		t.Error("Make and Units ask for no limit")
	}
}

// P1.3: what lies behind a list's length does not count, and no list is kept or handed out twice.
func TestMakeUnitsKeepNothing(t *testing.T) {
	l := []uint16{'a', 'b', 'c'}
	s := units.Make(l[:2])
	l[0] = 'x'
	if s != "\x00a\x00b" {
		t.Errorf("Make kept its list: %x", s)
	}
	one, two := units.Units(s), units.Units(s)
	one[0] = 'y'
	if two[0] != 'a' || s != "\x00a\x00b" {
		t.Error("Units handed out memory twice")
	}
}

// P1.4
func TestAt(t *testing.T) {
	s := units.Make([]uint16{'a', 0xD83D, 0xFFFF})
	for i, u := range []uint16{'a', 0xD83D, 0xFFFF} {
		for _, odd := range []api.Str{"", "z"} {
			if got, ok := units.At(s+odd, i); got != u || !ok {
				t.Errorf("At(%d): %x, %v", i, got, ok)
			}
		}
	}
	for _, i := range []int{-1, 3, 4, math.MinInt, math.MaxInt, math.MaxInt/2 + 1, math.MinInt/2 - 1} {
		for _, odd := range []api.Str{"", "z"} {
			if got, ok := units.At(s+odd, i); got != 0 || ok {
				t.Errorf("At(%d): %x, %v", i, got, ok)
			}
		}
	}
	if got, ok := units.At("", 0); got != 0 || ok {
		t.Errorf("At of nothing: %x, %v", got, ok)
	}
	if got, ok := units.At("a", 0); got != 0 || ok {
		t.Errorf("At of an odd byte: %x, %v", got, ok)
	}
}

// P1.4
func TestCut(t *testing.T) {
	for _, c := range []struct {
		text     string
		from, to int
		want     string
	}{
		{"abc", -1, 2, "ab"},
		{"abc", 0, 3, "abc"},
		{"abc", 1, 2, "b"},
		{"abc", 1, 4, "bc"},
		{"abc", 2, math.MaxInt, "c"},
		{"abc", math.MinInt, math.MaxInt, "abc"},
		{"abc", 3, 4, ""},
		{"abc", 4, 5, ""},
		{"abc", 1, 1, ""},
		{"abc", 2, 1, ""},
		{"abc", -2, -1, ""},
		{"abc", -2, 0, ""},
		{"abc", 0, math.MinInt, ""},
		{"abc", math.MaxInt, math.MinInt, ""},
		{"abc", math.MaxInt - 1, math.MaxInt, ""},
		{"", 0, 1, ""},
	} {
		for _, odd := range []api.Str{"", "z"} {
			if got := units.Cut(of(t, c.text)+odd, c.from, c.to); got != of(t, c.want) {
				t.Errorf("Cut(%q, %d, %d): %x", c.text, c.from, c.to, got)
			}
		}
	}
	if got := units.Cut(of(t, "\U0001F600"), 1, 2); got != "\xde\x00" {
		t.Errorf("Cut of half a pair: %x", got)
	}
}

// P1.5
func TestJoin(t *testing.T) {
	a, b := of(t, "ab"), of(t, "\U0001F600")
	for _, c := range []struct {
		list []api.Str
		want api.Str
	}{
		{nil, ""},
		{[]api.Str{}, ""},
		{[]api.Str{""}, ""},
		{[]api.Str{a}, a},
		{[]api.Str{a, b, a}, a + b + a},
		{[]api.Str{"", a, "", b}, a + b},
		{[]api.Str{a + "x", "y", b + "z"}, a + b},
	} {
		if got, e := units.Join(c.list...); got != c.want || e != api.OK {
			t.Errorf("Join(%x): %x, %d", c.list, got, e)
		}
	}
}

// P1.5: the edge of the limit; an odd byte is no unit.
func TestJoinLong(t *testing.T) {
	half := units.Make(slices.Repeat([]uint16{0xABCD}, api.MaxStr/2))
	if got, e := units.Join(half+"x", half+"y"); got != half+half || e != api.OK {
		t.Errorf("Join of MaxStr units: %d units, %d", units.Len(got), e)
	}
	if got, e := units.Join(half, "\x00a", half); got != "" || e != api.ErrLong {
		t.Errorf("Join of MaxStr + 1 units: %d units, %d", units.Len(got), e)
	}
	if got, e := units.Join(half + half + "\x00a"); got != "" || e != api.ErrLong {
		t.Errorf("Join of one too long: %d units, %d", units.Len(got), e)
	}
}

// P1.7, P1.10
func TestCompare(t *testing.T) {
	all := texts(3, 0, 1, 0xFF, 0x100, 0xD83D, 0xFFFF)
	for _, a := range all {
		for _, b := range all {
			want := slices.Compare(a, b)
			if got := units.Compare(bytesOf(a), bytesOf(b)); got != want {
				t.Fatalf("Compare(%x, %x): %d", a, b, got)
			}
			if got := units.Compare(bytesOf(a)+"\xff", bytesOf(b)+"\x00"); got != want {
				t.Fatalf("Compare(%x, %x) with odd bytes: %d", a, b, got)
			}
		}
	}
	if units.Compare("\xff\xff", of(t, "\U0001F600")) != 1 {
		t.Error("units are compared, not code points")
	}
}

// P2: nothing that is answered shares memory with an argument.
func TestAnswersAreNewMemory(t *testing.T) {
	s := of(t, "some text")
	joined, _ := units.Join(s)
	for name, got := range map[string]api.Str{
		"Cut":  units.Cut(s, 0, units.Len(s)),
		"tail": units.Cut(s, 5, 9),
		"Join": joined,
		"Make": units.Make(units.Units(s)),
	} {
		from := uintptr(unsafe.Pointer(unsafe.StringData(string(s))))
		at := uintptr(unsafe.Pointer(unsafe.StringData(string(got))))
		if from <= at && at < from+uintptr(len(s)) {
			t.Errorf("%s shares memory with its argument", name)
		}
	}
}
