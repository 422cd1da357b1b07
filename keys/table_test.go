package keys_test

import (
	"math"
	"math/rand"
	"slices"
	"testing"
	"unsafe"

	"lintel/api"
	"lintel/keys"
	"lintel/units"
)

// told gathers what Each tells, which must be numbered from 0 on.
func told(t *testing.T, x *keys.Table) []api.Str {
	t.Helper()
	var out []api.Str
	for n, s := range x.Each() {
		if n != len(out) {
			t.Fatalf("Each tells the number %d at place %d", n, len(out))
		}
		out = append(out, s)
	}
	return out
}

// checkTexts holds all that a table tells of its texts against a list.
func checkTexts(t *testing.T, x *keys.Table, want []api.Str) {
	t.Helper()
	if x.Len() != len(want) {
		t.Fatalf("Len: %d, not %d", x.Len(), len(want))
	}
	if got := told(t, x); !slices.Equal(got, want) {
		t.Fatalf("Each: %x, not %x", got, want)
	}
	for n, s := range want {
		if got, e := x.Name(n); got != s || e != api.OK {
			t.Fatalf("Name(%d): %x, error %d", n, got, e)
		}
	}
	for _, n := range []int{-1, math.MinInt, len(want), len(want) + 1, math.MaxInt} {
		if got, e := x.Name(n); got != "" || e != api.ErrRange {
			t.Fatalf("Name(%d): %x, error %d", n, got, e)
		}
	}
}

// P4.3
func TestNew(t *testing.T) {
	x := keys.New()
	checkTexts(t, x, nil)
	if s, e := x.About(api.Key{Sym: 1}); s != "" || e != api.ErrSymbol {
		t.Errorf("About of a new table's symbol 1: %x, error %d", s, e)
	}
	y := keys.New()
	x.Intern(of(t, "a"))
	if _, e := x.Symbol(of(t, "a")); e != api.OK {
		t.Errorf("Symbol: error %d", e)
	}
	checkTexts(t, y, nil)
	if s, e := y.About(api.Key{Sym: 1}); s != "" || e != api.ErrSymbol {
		t.Errorf("About of another table's symbol: %x, error %d", s, e)
	}
}

// P4.3, P4.5
func TestIntern(t *testing.T) {
	x := keys.New()
	for _, c := range []struct {
		text api.Str
		want int
	}{
		{of(t, "a"), 0},
		{of(t, "b"), 1},
		{of(t, "a"), 0},
		{"", 2},
		{"x", 2}, // an odd byte alone
		{of(t, "a") + "x", 0},
		{of(t, "c") + "x", 3},
		{of(t, "c"), 3},
		{of(t, "0"), 4},
		{of(t, "00"), 5},
		{of(t, "A"), 6},
		{"\xd8\x00", 7},
		{"\xd8\x00\xdc\x00", 8},
		{"\x61\x00", 9},
		{of(t, "b"), 1},
	} {
		if got := x.Intern(c.text); got != c.want {
			t.Errorf("Intern(%x): %d, not %d", c.text, got, c.want)
		}
	}
	checkTexts(t, x, []api.Str{of(t, "a"), of(t, "b"), "", of(t, "c"), of(t, "0"), of(t, "00"), of(t, "A"), "\xd8\x00", "\xd8\x00\xdc\x00", "\x61\x00"})
}

// P4.5: two texts have one number just if they are alike, in whichever order many are asked for.
func TestInternOfMany(t *testing.T) {
	r := rand.New(rand.NewSource(6))
	x := keys.New()
	var want []api.Str
	numbers := map[string]int{}
	for range 20000 {
		l := make([]uint16, r.Intn(5))
		for i := range l {
			l[i] = []uint16{'a', 'b', 0x6100, 0xD800, 0xDC00, 0}[r.Intn(6)]
		}
		s := units.Make(l)
		n, known := numbers[string(s)]
		if !known {
			n = len(want)
			numbers[string(s)] = n
			want = append(want, s)
		}
		if r.Intn(2) == 0 {
			s += "\x61"
		}
		if got := x.Intern(s); got != n {
			t.Fatalf("Intern(%x): %d, not %d", s, got, n)
		}
	}
	checkTexts(t, x, want)
}

// P4.3: the texts are those that there are when one begins; it may be left, and gone over again.
func TestEach(t *testing.T) {
	x := keys.New()
	each := x.Each()
	x.Intern(of(t, "a"))
	x.Intern(of(t, "b"))
	var got []api.Str
	for n, s := range each {
		got = append(got, s)
		x.Intern(of(t, "more") + api.Str([]byte{0, byte('0' + n)}))
	}
	if !slices.Equal(got, []api.Str{of(t, "a"), of(t, "b")}) {
		t.Errorf("Each, with texts that came meanwhile: %x", got)
	}
	got = nil
	for _, s := range each {
		got = append(got, s)
		if len(got) == 3 {
			break
		}
	}
	if !slices.Equal(got, []api.Str{of(t, "a"), of(t, "b"), of(t, "more0")}) {
		t.Errorf("Each, left after three: %x", got)
	}
	checkTexts(t, x, []api.Str{of(t, "a"), of(t, "b"), of(t, "more0"), of(t, "more1")})
}

// P4.3: two may go over it at once, each from its own beginning.
func TestEachWithinEach(t *testing.T) {
	x := keys.New()
	for _, s := range []string{"a", "b", "c"} {
		x.Intern(of(t, s))
	}
	var got []int
	each := x.Each()
	for n := range each {
		for m := range each {
			if m > n {
				break
			}
			got = append(got, 10*n+m)
		}
	}
	if !slices.Equal(got, []int{0, 10, 11, 20, 21, 22}) {
		t.Errorf("Each within Each: %d", got)
	}
}

// P4.3: a nil Table, and those that New did not make.
func TestNoTable(t *testing.T) {
	made := keys.New()
	made.Intern(of(t, "a"))
	if _, e := made.Symbol(of(t, "s")); e != api.OK {
		t.Fatal(e)
	}
	copied := *made
	for name, x := range map[string]*keys.Table{"nil": nil, "zero": {}, "copied": &copied} {
		if n := x.Intern(of(t, "b")); n != -1 {
			t.Errorf("%s: Intern: %d", name, n)
		}
		if n := x.Len(); n != 0 {
			t.Errorf("%s: Len: %d", name, n)
		}
		for _, n := range []int{-1, 0, 1} {
			if s, e := x.Name(n); s != "" || e != api.ErrKeys {
				t.Errorf("%s: Name(%d): %x, error %d", name, n, s, e)
			}
		}
		if k, e := x.Symbol(of(t, "s")); k != (api.Key{}) || e != api.ErrKeys {
			t.Errorf("%s: Symbol: %x, error %d", name, k, e)
		}
		for _, k := range []api.Key{{}, {Sym: 1}, {Sym: -1}, text(t, "a")} {
			if s, e := x.About(k); s != "" || e != api.ErrKeys {
				t.Errorf("%s: About(%x): %x, error %d", name, k, s, e)
			}
		}
		if got := told(t, x); len(got) != 0 {
			t.Errorf("%s: Each: %x", name, got)
		}
	}
	checkTexts(t, made, []api.Str{of(t, "a")})
}

// P4.4
func TestSymbolAndAbout(t *testing.T) {
	x := keys.New()
	names := []api.Str{of(t, "d"), "", of(t, "d"), "\xd8\x00", of(t, "odd") + "x"}
	for i, name := range names {
		if k, e := x.Symbol(name); k != (api.Key{Sym: i + 1}) || e != api.OK {
			t.Fatalf("Symbol(%x): %x, error %d", name, k, e)
		}
	}
	for i, want := range []api.Str{of(t, "d"), "", of(t, "d"), "\xd8\x00", of(t, "odd")} {
		for _, k := range []api.Key{{Sym: i + 1}, {Name: of(t, "of no account"), Sym: i + 1}} {
			if s, e := x.About(k); s != want || e != api.OK {
				t.Errorf("About(%x): %x, error %d", k, s, e)
			}
		}
	}
	for _, k := range []api.Key{{}, text(t, "d"), {Sym: -1}, {Name: of(t, "d"), Sym: math.MinInt}, {Sym: len(names) + 1}, {Sym: math.MaxInt}} {
		if s, e := x.About(k); s != "" || e != api.ErrSymbol {
			t.Errorf("About(%x): %x, error %d", k, s, e)
		}
	}
	// Symbols' descriptions are no texts of the table.
	checkTexts(t, x, nil)
}

// P4.4: the limit; what was refused has changed nothing.
func TestSymbolsUpToTheLimit(t *testing.T) {
	x := keys.New()
	for i := range api.MaxSymbols {
		if k, e := x.Symbol(keys.Of(uint32(i)).Name); k != (api.Key{Sym: i + 1}) || e != api.OK {
			t.Fatalf("Symbol %d: %x, error %d", i, k, e)
		}
	}
	for range 3 {
		if k, e := x.Symbol(of(t, "more")); k != (api.Key{}) || e != api.ErrLong {
			t.Fatalf("Symbol past the limit: %x, error %d", k, e)
		}
	}
	for i := range api.MaxSymbols {
		if s, e := x.About(api.Key{Sym: i + 1}); s != keys.Of(uint32(i)).Name || e != api.OK {
			t.Fatalf("About of symbol %d: %x, error %d", i+1, s, e)
		}
	}
	if s, e := x.About(api.Key{Sym: api.MaxSymbols + 1}); s != "" || e != api.ErrSymbol {
		t.Errorf("About of the refused symbol: %x, error %d", s, e)
	}
	if n := x.Intern(of(t, "text")); n != 0 {
		t.Errorf("Intern beside all symbols: %d", n)
	}
}

// P4.3, P4.4, P2: a table keeps copies and hands out copies.
func TestTableSharesNothing(t *testing.T) {
	x := keys.New()
	given := of(t, "some text")
	x.Intern(given)
	k, _ := x.Symbol(given)
	var all []api.Str
	for range 2 {
		name, _ := x.Name(0)
		about, _ := x.About(k)
		all = append(all, name, about)
		all = append(all, told(t, x)...)
	}
	for i, a := range all {
		if within(a, given) {
			t.Errorf("answer %d shares memory with an argument", i)
		}
		for j, b := range all {
			if i != j && within(a, b) {
				t.Errorf("answers %d and %d share memory", i, j)
			}
		}
	}
}

// P4.3, P4.4: what a table was given is not kept: the memory of the argument may become something else.
func TestTableKeepsCopies(t *testing.T) {
	x := keys.New()
	memory := []byte(of(t, "first"))
	given := api.Str(unsafe.String(&memory[0], len(memory)))
	x.Intern(given)
	k, _ := x.Symbol(given)
	copy(memory, of(t, "other"))
	if s, e := x.About(k); s != of(t, "first") || e != api.OK {
		t.Errorf("About: %q, error %d", units.Text(s), e)
	}
	if n := x.Intern(of(t, "first")); n != 0 {
		t.Errorf("Intern of the text that was given: %d", n)
	}
	if n := x.Intern(given); n != 1 {
		t.Errorf("Intern of the text that came after: %d", n)
	}
	checkTexts(t, x, []api.Str{of(t, "first"), of(t, "other")})
}
