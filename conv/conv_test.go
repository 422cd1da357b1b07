package conv_test

import (
	"math"
	"strings"
	"testing"
	"unsafe"

	"lintel/api"
	"lintel/conv"
	"lintel/units"
)

var (
	inf    = math.Inf(1)
	nan    = math.NaN()
	minus0 = math.Copysign(0, -1)
)

// of makes a text of UTF-8 that is known to be good.
func of(s string) api.Str {
	u, _, _ := units.Of(s)
	return u
}

func text(s string) api.Value { return api.Value{Kind: api.Text, Str: of(s)} }

func number(x float64) api.Value { return api.Value{Kind: api.Number, Num: x} }

func symbol(n int) api.Value { return api.Value{Kind: api.Symbol, Ref: n} }

func reference(n int) api.Value { return api.Value{Kind: api.Object, Ref: n} }

// boolean is a Bool, by its Num.
func boolean(x float64) api.Value { return api.Value{Kind: api.Bool, Num: x} }

func null() api.Value { return api.Value{Kind: api.Null} }

// noisy is v with other fields than its kind names, which don't count.
func noisy(v api.Value) api.Value {
	if v.Kind != api.Bool && v.Kind != api.Number {
		v.Num = 1
	}
	if v.Kind != api.Text {
		v.Str = of("7x")
	}
	if v.Kind != api.Symbol && v.Kind != api.Object {
		v.Ref = 3
	}
	return v
}

// noKinds are kinds that are none.
var noKinds = []int{-1, 7, -6, 1 << 32, math.MinInt, math.MaxInt}

// alike says whether two numbers are one: NaN is one, 0 isn't -0.
func alike(a, b float64) bool {
	if a != a || b != b {
		return a != a && b != b
	}
	return math.Float64bits(a) == math.Float64bits(b)
}

// row is a value, and what becomes of it.
type row struct {
	v      api.Value
	truthy bool
	kind   string
	number float64
	text   string
	key    api.Key
	prim   bool // it has a Number and a Text
	keyed  bool
}

// primitive is the row of what has a Number and a Text, of which its key is.
func primitive(v api.Value, truthy bool, kind string, number float64, text string) row {
	return row{v, truthy, kind, number, text, api.Key{Name: of(text)}, true, true}
}

func rows() []row {
	l := []row{
		primitive(api.Value{}, false, "undefined", nan, "undefined"),
		primitive(null(), false, "object", 0, "null"),
		primitive(boolean(0), false, "boolean", 0, "false"),
		primitive(boolean(1), true, "boolean", 1, "true"),
		primitive(number(0), false, "number", 0, "0"),
		primitive(number(minus0), false, "number", minus0, "0"),
		primitive(number(nan), false, "number", nan, "NaN"),
		primitive(number(math.Float64frombits(0xFFF8000000000001)), false, "number", nan, "NaN"),
		primitive(number(1), true, "number", 1, "1"),
		primitive(number(-1), true, "number", -1, "-1"),
		primitive(number(1.5), true, "number", 1.5, "1.5"),
		primitive(number(math.SmallestNonzeroFloat64), true, "number", math.SmallestNonzeroFloat64, "5e-324"),
		primitive(number(-math.SmallestNonzeroFloat64), true, "number", -math.SmallestNonzeroFloat64, "-5e-324"),
		primitive(number(4294967295), true, "number", 4294967295, "4294967295"),
		primitive(number(1e21), true, "number", 1e21, "1e+21"),
		primitive(number(inf), true, "number", inf, "Infinity"),
		primitive(number(-inf), true, "number", -inf, "-Infinity"),
		primitive(text(""), false, "string", 0, ""),
		primitive(text(" "), true, "string", 0, " "),
		primitive(text("\u2028\ufeff"), true, "string", 0, "\u2028\ufeff"),
		primitive(text("0"), true, "string", 0, "0"),
		primitive(text("-0"), true, "string", minus0, "-0"),
		primitive(text(" 12 "), true, "string", 12, " 12 "),
		primitive(text("0x1F"), true, "string", 31, "0x1F"),
		primitive(text("1.5e3"), true, "string", 1500, "1.5e3"),
		primitive(text("-Infinity"), true, "string", -inf, "-Infinity"),
		primitive(text("NaN"), true, "string", nan, "NaN"),
		primitive(text("false"), true, "string", nan, "false"),
		primitive(text("1 2"), true, "string", nan, "1 2"),
		primitive(text("\x00"), true, "string", nan, "\x00"),
		primitive(text("a\U0001f600"), true, "string", nan, "a\U0001f600"),
	}
	for _, n := range []int{1, 2, api.MaxSymbols, math.MaxInt} {
		l = append(l, row{v: symbol(n), truthy: true, kind: "symbol", key: api.Key{Sym: n}, keyed: true}, row{v: reference(n), truthy: true, kind: "object"})
	}
	for _, n := range []int{0, -1, math.MinInt} {
		l = append(l, row{v: symbol(n), truthy: true, kind: "symbol"}, row{v: reference(n), truthy: true, kind: "object"})
	}
	for _, x := range []float64{minus0, -1, 2, 0.5, math.Nextafter(1, 2), nan, inf, -inf} {
		l = append(l, primitive(boolean(x), false, "boolean", 0, "false"))
	}
	for _, k := range noKinds {
		l = append(l, primitive(api.Value{Kind: k}, false, "undefined", nan, "undefined"))
	}
	for _, r := range l { // by value: the rows behind these are not gone over
		r.v = noisy(r.v)
		l = append(l, r)
	}
	return l
}

// P18.1
func TestTruthyType(t *testing.T) {
	for _, r := range rows() {
		if got := conv.Truthy(r.v); got != r.truthy {
			t.Errorf("Truthy(%+v): %v", r.v, got)
		}
		if got := conv.Type(r.v); got != r.kind {
			t.Errorf("Type(%+v): %q, not %q", r.v, got, r.kind)
		}
	}
}

// P18.2
func TestNumber(t *testing.T) {
	for _, r := range rows() {
		if x, is := conv.Number(r.v); !alike(x, r.number) || is != r.prim {
			t.Errorf("Number(%+v): %v, %v, not %v, %v", r.v, x, is, r.number, r.prim)
		}
	}
}

// P18.3
func TestText(t *testing.T) {
	for _, r := range rows() {
		if s, is := conv.Text(r.v); s != of(r.text) || is != r.prim {
			t.Errorf("Text(%+v): %q, %v, not %q, %v", r.v, units.Text(s), is, r.text, r.prim)
		}
	}
}

// P18.4
func TestKey(t *testing.T) {
	for _, r := range rows() {
		if k, is := conv.Key(r.v); k != r.key || is != r.keyed {
			t.Errorf("Key(%+v): %+v, %v, not %+v, %v", r.v, k, is, r.key, r.keyed)
		}
	}
}

// P18.4: a key is a value, and that value's key is it; of a key's fields just the one that counts does.
func TestOf(t *testing.T) {
	for _, c := range []struct {
		k    api.Key
		want api.Value
	}{
		{api.Key{}, text("")},
		{api.Key{Name: of("a")}, text("a")},
		{api.Key{Name: of("12")}, text("12")},
		{api.Key{Name: of("a"), Sym: -1}, text("a")},
		{api.Key{Name: of("a"), Sym: math.MinInt}, text("a")},
		{api.Key{Name: of("a") + "x"}, text("a")},
		{api.Key{Name: "x"}, text("")},
		{api.Key{Name: "\xd8\x00"}, api.Value{Kind: api.Text, Str: "\xd8\x00"}},
		{api.Key{Sym: 1}, symbol(1)},
		{api.Key{Sym: math.MaxInt}, symbol(math.MaxInt)},
		{api.Key{Name: of("a"), Sym: 1}, symbol(1)},
		{api.Key{Name: "x", Sym: 7}, symbol(7)},
	} {
		v := conv.Of(c.k)
		if v != c.want || !conv.Good(v) {
			t.Errorf("Of(%+v): %+v, not %+v", c.k, v, c.want)
		}
		want := api.Key{Name: c.want.Str, Sym: c.want.Ref}
		if k, is := conv.Key(v); k != want || !is {
			t.Errorf("Key of Of(%+v): %+v, %v", c.k, k, is)
		}
	}
}

// P18.1 to P18.4: an odd byte does not count, and is not answered.
func TestOddBytes(t *testing.T) {
	for _, c := range []struct {
		s, even api.Str
		number  float64
	}{
		{"x", "", 0},
		{"\x00", "", 0},
		{"1", "", 0},
		{of("1") + "x", of("1"), 1},
		{of("1") + "\x00", of("1"), 1},
		{of("a") + "x", of("a"), nan},
		{"\xd8\x00\xdc", "\xd8\x00", nan},
	} {
		v := api.Value{Kind: api.Text, Str: c.s}
		if conv.Truthy(v) != (c.even != "") {
			t.Errorf("Truthy(%x): %v", c.s, conv.Truthy(v))
		}
		if x, is := conv.Number(v); !alike(x, c.number) || !is {
			t.Errorf("Number(%x): %v, %v", c.s, x, is)
		}
		if s, is := conv.Text(v); s != c.even || !is {
			t.Errorf("Text(%x): %x, %v", c.s, s, is)
		}
		if k, is := conv.Key(v); k != (api.Key{Name: c.even}) || !is {
			t.Errorf("Key(%x): %+v, %v", c.s, k, is)
		}
	}
}

// P18.1 to P18.6: texts that are longer than any that the machine makes.
func TestLongTexts(t *testing.T) {
	const size = 3*api.MaxStr + 1
	long := text(strings.Repeat("1", size))
	if s, is := conv.Text(long); s != long.Str || !is {
		t.Errorf("Text: %d units, %v", units.Len(s), is)
	}
	if x, is := conv.Number(long); x != inf || !is {
		t.Errorf("Number: %v, %v", x, is)
	}
	if is, known := conv.Loose(long, number(inf)); !is || !known {
		t.Errorf("Loose: %v, %v", is, known)
	}
	if conv.Same(long, text(strings.Repeat("1", size-1)+"2"), api.SameStrict) {
		t.Error("Same")
	}
}

// within says whether a's memory lies in b's.
func within(a, b api.Str) bool {
	from, at := uintptr(unsafe.Pointer(unsafe.StringData(string(b)))), uintptr(unsafe.Pointer(unsafe.StringData(string(a))))
	return len(a) > 0 && from <= at && at < from+uintptr(len(b))
}

// P2, of P18.3 and P18.4: what is answered lies in memory of its own.
func TestSharesNothing(t *testing.T) {
	for _, given := range []api.Str{of("some text"), of("7"), of("odd") + "x"} {
		v := api.Value{Kind: api.Text, Str: given}
		var all []api.Str
		for range 2 {
			s, _ := conv.Text(v)
			k, _ := conv.Key(v)
			all = append(all, s, k.Name, conv.Of(api.Key{Name: given}).Str)
		}
		for i, a := range all {
			if within(a, given) {
				t.Errorf("answer %d shares memory with an argument", i)
			}
			for j, b := range all {
				if i != j && within(a, b) {
					t.Errorf("answers %d and %d share memory", i, j)
				}
			}
		}
	}
}
