package digits_test

import (
	"testing"
	"unsafe"

	"lintel/api"
	"lintel/digits"
	"lintel/units"
)

// blanks are the units that the document names, one by one.
const blanks = "\t\n\v\f\r \u00a0\u1680\u2000\u2001\u2002\u2003\u2004\u2005\u2006\u2007\u2008\u2009\u200a\u2028\u2029\u202f\u205f\u3000\ufeff"

// P3.6
func TestBlank(t *testing.T) {
	want := make(map[uint16]bool)
	for _, r := range blanks {
		want[uint16(r)] = true
	}
	if len(want) != 25 {
		t.Fatal(len(want))
	}
	for u := range 1 << 16 {
		if digits.Blank(uint16(u)) != want[uint16(u)] {
			t.Errorf("Blank(%x): %v", u, !want[uint16(u)])
		}
	}
}

// P3.6
func TestTrim(t *testing.T) {
	for _, c := range []struct{ text, want string }{
		{"", ""},
		{" ", ""},
		{blanks, ""},
		{blanks + blanks, ""},
		{"a", "a"},
		{" a", "a"},
		{"a ", "a"},
		{"\n a \t b\r\n", "a \t b"},
		{blanks + "a" + blanks + "b" + blanks, "a" + blanks + "b"},
		{"\u200ba\u200b", "\u200ba\u200b"},
		{"\u180e \u180e", "\u180e \u180e"},
		{"\x00 \x00", "\x00 \x00"},
		{" \U0001F600 ", "\U0001F600"},
	} {
		if got := digits.Trim(of(t, c.text)); units.Text(got) != c.want || len(got)%2 != 0 {
			t.Errorf("Trim(%q): %q", c.text, units.Text(got))
		}
	}
	for _, c := range []struct{ text, want api.Str }{
		{"\x20", ""},
		{"\x00\x20\x00", ""},
		{"\x00a\x00\x20\x20", "\x00a"},
		{"\x00\x20\x00a\x20", "\x00a"},
		{"\xd8\x00\x00\x20", "\xd8\x00"},
		{"\x20\x00\x20\x20", "\x20\x20"},
	} {
		if got := digits.Trim(c.text); got != c.want {
			t.Errorf("Trim(%x): %x", c.text, got)
		}
	}
}

// P2: what is answered lies in memory of its own.
func TestTrimShares(t *testing.T) {
	for _, s := range []api.Str{of(t, "abc"), of(t, " abc "), of(t, "abc ")} {
		from := uintptr(unsafe.Pointer(unsafe.StringData(string(s))))
		got := uintptr(unsafe.Pointer(unsafe.StringData(string(digits.Trim(s)))))
		if from <= got && got < from+uintptr(len(s)) {
			t.Errorf("Trim(%x) shares memory with it", s)
		}
	}
}
