package keys_test

import (
	"math"
	"math/rand"
	"regexp"
	"slices"
	"sort"
	"strconv"
	"strings"
	"testing"
	"unsafe"

	"lintel/api"
	"lintel/keys"
	"lintel/units"
)

// of makes a text of UTF-8 that is known to be good.
func of(t *testing.T, s string) api.Str {
	t.Helper()
	u, at, e := units.Of(s)
	if at != 0 || e != api.OK {
		t.Fatalf("Of(%q): place %d, error %d", s, at, e)
	}
	return u
}

// text makes the key of a text.
func text(t *testing.T, s string) api.Key {
	t.Helper()
	return api.Key{Name: of(t, s)}
}

// list makes the keys of texts and, of those that begin with @, symbols by their numbers.
func list(t *testing.T, l ...string) []api.Key {
	t.Helper()
	var out []api.Key
	for _, s := range l {
		if n, is := strings.CutPrefix(s, "@"); is {
			sym, err := strconv.Atoi(n)
			if err != nil {
				t.Fatal(err)
			}
			out = append(out, api.Key{Sym: sym})
			continue
		}
		out = append(out, text(t, s))
	}
	return out
}

// within tells whether a text's first byte lies in the memory of another.
func within(a, b api.Str) bool {
	if len(a) == 0 || len(b) == 0 {
		return false
	}
	at := uintptr(unsafe.Pointer(unsafe.StringData(string(a))))
	from := uintptr(unsafe.Pointer(unsafe.StringData(string(b))))
	return from <= at && at < from+uintptr(len(b))
}

// indexForm is the document's word of what an index is, but for the greatest.
var indexForm = regexp.MustCompile(`^(0|[1-9][0-9]*)$`)

// indexBy is an oracle for Index.
func indexBy(s api.Str) (uint32, bool) {
	digits := units.Text(s)
	if !indexForm.MatchString(digits) {
		return 0, false
	}
	n, err := strconv.ParseUint(digits, 10, 32)
	if err != nil || n == math.MaxUint32 {
		return 0, false
	}
	return uint32(n), true
}

// P4.1
func TestIndex(t *testing.T) {
	for _, c := range []struct {
		text  string
		index uint32
		is    bool
	}{
		{"0", 0, true},
		{"1", 1, true},
		{"9", 9, true},
		{"10", 10, true},
		{"907", 907, true},
		{"2147483647", 2147483647, true},
		{"2147483648", 2147483648, true},
		{"4294967289", 4294967289, true},
		{"4294967294", 4294967294, true},
		{"4294967295", 0, false},
		{"4294967296", 0, false},
		{"4294967297", 0, false},
		{"8589934592", 0, false},
		{"9999999999", 0, false},
		{"10000000000", 0, false},
		{"18446744073709551616", 0, false},
		{"18446744073709551617", 0, false},
		{"", 0, false},
		{"00", 0, false},
		{"01", 0, false},
		{"0000000001", 0, false},
		{"00000000001", 0, false},
		{"-0", 0, false},
		{"-1", 0, false},
		{"+1", 0, false},
		{" 1", 0, false},
		{"1 ", 0, false},
		{"1\n", 0, false},
		{"1.0", 0, false},
		{"1.5", 0, false},
		{"1e3", 0, false},
		{"0x1", 0, false},
		{"1_0", 0, false},
		{"/", 0, false},
		{":", 0, false},
		{"a", 0, false},
		{"1a", 0, false},
		{"a1", 0, false},
		{"length", 0, false},
		{"Infinity", 0, false},
		{"NaN", 0, false},
		{"1\x00", 0, false},
		{"\u0663", 0, false},
		{"\uff11", 0, false},
		{"\u0131", 0, false},
		{"\u3131", 0, false},
		{"\U0001d7d8", 0, false},
	} {
		if n, is := keys.Index(of(t, c.text)); n != c.index || is != c.is {
			t.Errorf("Index(%q): %d, %t", c.text, n, is)
		}
	}
}

// P4.1: an odd byte does not count.
func TestIndexOdd(t *testing.T) {
	for _, c := range []struct {
		text  api.Str
		index uint32
		is    bool
	}{
		{"\x00", 0, false},
		{"1", 0, false},
		{"\x001\x00", 1, true},
		{"\x0012", 1, true},
		{"\x001\x00" + "2x", 12, true},
		{of(t, "4294967294") + "5", 4294967294, true},
		{of(t, "4294967295") + "5", 0, false},
		{of(t, "01") + "5", 0, false},
		{"\x01\x31", 0, false},
		{"\xd8\x30", 0, false},
	} {
		if n, is := keys.Index(c.text); n != c.index || is != c.is {
			t.Errorf("Index(%x): %d, %t", c.text, n, is)
		}
	}
}

// P4.1: all short texts, of digits, their neighbours, and units of which only the lower byte is a digit.
func TestIndexOfAll(t *testing.T) {
	all := [][]uint16{nil}
	for from := 0; len(all[from]) < 5; from++ {
		for _, u := range []uint16{'/', '0', '1', '9', ':', '-', 0x130, 0x3100} {
			all = append(all, append(slices.Clone(all[from]), u))
		}
	}
	for _, l := range all {
		checkIndex(t, units.Make(l))
	}
}

func checkIndex(t *testing.T, s api.Str) {
	t.Helper()
	n, is := keys.Index(s)
	if wantN, wantIs := indexBy(s); n != wantN || is != wantIs {
		t.Fatalf("Index(%q): %d, %t, not %d, %t", units.Text(s), n, is, wantN, wantIs)
	}
}

// P4.1: numbers about the powers of two and of ten, and with a nought ahead and behind.
func TestIndexOfNumbers(t *testing.T) {
	var some []uint64
	for p := 0; p < 64; p++ {
		some = append(some, 1<<p)
	}
	for p := uint64(1); p < math.MaxUint64/10; p *= 10 {
		some = append(some, p)
	}
	for _, n := range some {
		for d := range uint64(2001) {
			digits := strconv.FormatUint(n+d-1000, 10)
			checkIndex(t, of(t, digits))
			checkIndex(t, of(t, "0"+digits))
			checkIndex(t, of(t, digits+"0"))
		}
	}
	checkIndex(t, of(t, strings.Repeat("0", 100000)))
	checkIndex(t, of(t, strings.Repeat("9", 100000)))
}

// P4.1
func TestOf(t *testing.T) {
	r := rand.New(rand.NewSource(4))
	some := []uint32{0, 1, 9, 10, 99, 100, 1 << 16, 1<<31 - 1, 1 << 31, 1<<32 - 2}
	for range 10000 {
		some = append(some, r.Uint32()>>r.Intn(32))
	}
	for _, i := range some {
		k := keys.Of(i)
		if k != text(t, strconv.FormatUint(uint64(i), 10)) {
			t.Fatalf("Of(%d): %x, %d", i, k.Name, k.Sym)
		}
		n, is := keys.Index(k.Name)
		if wantIs := i != math.MaxUint32; is != wantIs || is && n != i {
			t.Fatalf("Index of Of(%d): %d, %t", i, n, is)
		}
	}
	if k := keys.Of(math.MaxUint32); k != text(t, "4294967295") {
		t.Errorf("Of the number that is no index: %x, %d", k.Name, k.Sym)
	}
	if within(keys.Of(123).Name, keys.Of(123).Name) {
		t.Error("two answers of Of share memory")
	}
}

// P4.2
func TestOrder(t *testing.T) {
	for _, c := range []struct{ keys, want []string }{
		{nil, nil},
		{[]string{"a"}, []string{"a"}},
		{[]string{"b", "2", "a", "10", "1"}, []string{"1", "2", "10", "b", "a"}},
		{[]string{"@2", "b", "10", "01", "9", "4294967295", "@1"}, []string{"9", "10", "b", "01", "4294967295", "@2", "@1"}},
		{[]string{"4294967294", "2147483648", "0"}, []string{"0", "2147483648", "4294967294"}},
		{[]string{"@1", "", "0", "-0"}, []string{"0", "", "-0", "@1"}},
		{[]string{"z", "y", "z", "7", "x", "7", "@5", "z", "@5", "3", "@4"}, []string{"3", "7", "7", "z", "y", "z", "x", "z", "@5", "@5", "@4"}},
		{[]string{"@3", "@2", "@9223372036854775807", "@1"}, []string{"@3", "@2", "@9223372036854775807", "@1"}},
		{[]string{"10", "9", "100", "99"}, []string{"9", "10", "99", "100"}},
		{[]string{"length", "1", "\U0001f600"}, []string{"1", "length", "\U0001f600"}},
	} {
		if got, want := keys.Order(list(t, c.keys...)), list(t, c.want...); !slices.Equal(got, want) {
			t.Errorf("Order(%q): %x", c.keys, got)
		}
	}
	if got := keys.Order([]api.Key{}); len(got) != 0 {
		t.Errorf("Order of none: %x", got)
	}
}

// P4.2: what does not count is not asked; by P6 it is zero in the answer.
func TestOrderOfWhatDoesNotCount(t *testing.T) {
	one, two, a := of(t, "1"), of(t, "2"), of(t, "a")
	got := keys.Order([]api.Key{{Name: one, Sym: 7}, {Name: a, Sym: -1}, {Name: two + "x", Sym: math.MinInt}, {Name: a + "x"}, {Name: one}})
	want := []api.Key{{Name: one}, {Name: two}, {Name: a}, {Name: a}, {Sym: 7}}
	if !slices.Equal(got, want) {
		t.Errorf("Order: %x", got)
	}
}

// rank is 0 of an index, 1 of another text, 2 of a symbol; by the oracle.
func rank(k api.Key) (int, uint32) {
	if k.Sym > 0 {
		return 2, 0
	}
	if n, is := indexBy(k.Name); is {
		return 0, n
	}
	return 1, 0
}

// someKeys picks keys out of few, so that many stand more than once.
func someKeys(t *testing.T, r *rand.Rand, size int) []api.Key {
	some := list(t, "0", "1", "2", "9", "10", "11", "007", "4294967294", "4294967295", "", "a", "b", "-1", "1e3", "@1", "@2", "@3")
	l := make([]api.Key, size)
	for i := range l {
		l[i] = some[r.Intn(len(some))]
	}
	return l
}

// P4.2, P4.6: held against a stable sort by kinds and numbers; Order of Order is Order.
func TestOrderOfMany(t *testing.T) {
	r := rand.New(rand.NewSource(5))
	for size := range 400 {
		l := someKeys(t, r, size)
		given, want := slices.Clone(l), slices.Clone(l)
		sort.SliceStable(want, func(i, j int) bool {
			ri, ni := rank(want[i])
			rj, nj := rank(want[j])
			return ri < rj || ri == rj && ni < nj
		})
		got := keys.Order(l)
		if !slices.Equal(got, want) {
			t.Fatalf("Order(%x): %x, not %x", l, got, want)
		}
		if !slices.Equal(l, given) {
			t.Fatal("Order changed its argument")
		}
		if again := keys.Order(got); !slices.Equal(again, got) {
			t.Fatalf("Order of Order(%x): %x", l, again)
		}
	}
}

// P4.2, P2: nothing is shared, nothing behind the length is touched.
func TestOrderKeepsToItself(t *testing.T) {
	all := list(t, "b", "1", "@1", "0", "behind")
	given := slices.Clone(all)
	got := keys.Order(all[:4])
	if !slices.Equal(got, list(t, "0", "1", "b", "@1")) {
		t.Errorf("Order: %x", got)
	}
	if !slices.Equal(all, given) {
		t.Error("Order changed its argument")
	}
	for i := range got {
		for _, k := range all {
			if within(got[i].Name, k.Name) {
				t.Errorf("Order's key %d shares its text", i)
			}
		}
		got[i] = api.Key{Sym: 99}
	}
	if !slices.Equal(all, given) {
		t.Error("Order's answer shares its list")
	}
	for _, k := range got[len(got):cap(got)] {
		if k != (api.Key{}) {
			t.Errorf("behind Order's answer stands %x", k)
		}
	}
}

// P4.2
func TestCompare(t *testing.T) {
	// Each stands ahead of those behind it; those of one row are alike.
	rows := [][]api.Key{
		{{}, {Sym: -1}, {Sym: math.MinInt}, {Name: "x"}},
		{text(t, "0"), {Name: of(t, "0") + "x"}},
		{text(t, "10"), {Name: of(t, "10"), Sym: -3}},
		{text(t, "2")},
		{text(t, "a")},
		{text(t, "aa")},
		{text(t, "b")},
		{text(t, "\u0100")},
		{text(t, "\U0001f600")},
		{text(t, "\uffff")},
		{{Sym: 1}, {Name: of(t, "z"), Sym: 1}, {Name: of(t, "a"), Sym: 1}},
		{{Sym: 2}, {Name: "x", Sym: 2}},
		{{Sym: 10}},
		{{Sym: math.MaxInt}},
	}
	for i, as := range rows {
		for j, bs := range rows {
			want := 0
			if i < j {
				want = -1
			} else if i > j {
				want = 1
			}
			for _, a := range as {
				for _, b := range bs {
					if got := keys.Compare(a, b); got != want {
						t.Errorf("Compare(%x, %x): %d", a, b, got)
					}
				}
			}
		}
	}
}
