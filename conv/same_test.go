package conv_test

import (
	"math"
	"testing"

	"lintel/api"
	"lintel/conv"
)

// the document's examples, of P18.2, P18.4 and P18.6
func TestExamples(t *testing.T) {
	if is, known := conv.Loose(text("1"), number(1)); !is || !known {
		t.Errorf("\"1\" == 1: %v, %v", is, known)
	}
	if is, known := conv.Loose(null(), number(0)); is || !known {
		t.Errorf("null == 0: %v, %v", is, known)
	}
	if x, is := conv.Number(text(" 12 ")); x != 12 || !is {
		t.Errorf("Number: %v, %v", x, is)
	}
	if k, is := conv.Key(number(1.5)); k != (api.Key{Name: of("1.5")}) || !is {
		t.Errorf("Key: %+v, %v", k, is)
	}
}

// holdSame holds Same of both, either way round and with fields that don't count.
func holdSame(t *testing.T, a, b api.Value, how int, want bool) {
	t.Helper()
	for _, x := range []api.Value{a, noisy(a)} {
		for _, y := range []api.Value{b, noisy(b)} {
			if conv.Same(x, y, how) != want || conv.Same(y, x, how) != want {
				t.Errorf("Same(%+v, %+v, %d): not %v", x, y, how, want)
			}
		}
	}
}

// hows are those that there are, and others.
var hows = []int{api.SameStrict, api.SameZero, api.SameValue, -1, 3, math.MinInt, math.MaxInt}

// P18.5: of all but numbers how does not matter.
func TestSame(t *testing.T) {
	for _, how := range hows {
		for _, c := range []struct {
			a, b api.Value
			want bool
		}{
			{api.Value{}, api.Value{}, true},
			{api.Value{}, api.Value{Kind: 7}, true},
			{api.Value{Kind: -1}, api.Value{Kind: math.MaxInt}, true},
			{null(), null(), true},
			{boolean(1), boolean(1), true},
			{boolean(0), boolean(0), true},
			{boolean(1), boolean(0), false},
			{boolean(minus0), boolean(0), true},
			{boolean(2), boolean(nan), true},
			{boolean(nan), boolean(nan), true},
			{boolean(2), boolean(1), false},
			{text(""), text(""), true},
			{text("a"), text("a"), true},
			{text("a"), text("A"), false},
			{text("a"), text("ab"), false},
			{text("1"), text("1.0"), false},
			{text("a"), api.Value{Kind: api.Text, Str: of("a") + "x"}, true},
			{text(""), api.Value{Kind: api.Text, Str: "x"}, true},
			{api.Value{Kind: api.Text, Str: of("a") + "x"}, api.Value{Kind: api.Text, Str: of("a") + "y"}, true},
			{api.Value{Kind: api.Text, Str: "\xd8\x00"}, text("\ufffd"), false},
			{symbol(1), symbol(1), true},
			{symbol(1), symbol(2), false},
			{symbol(0), symbol(0), true},
			{symbol(0), symbol(-1), false},
			{reference(1), reference(1), true},
			{reference(1), reference(2), false},
			{reference(math.MinInt), reference(math.MinInt), true},
			{reference(-1), reference(1), false},
		} {
			holdSame(t, c.a, c.b, how, c.want)
		}
	}
}

// P18.5: values of unlike kinds are not the same, whatever they could be made into.
func TestSameUnlike(t *testing.T) {
	l := []api.Value{{}, null(), boolean(1), number(1), text("1"), symbol(1), reference(1)}
	for i, a := range l {
		for j, b := range l {
			for _, how := range hows {
				if i != j {
					holdSame(t, a, b, how, false)
				}
			}
		}
	}
}

// P18.5
func TestSameNumbers(t *testing.T) {
	for _, c := range []struct {
		a, b                float64
		strict, zero, value bool
	}{
		{1, 1, true, true, true},
		{1, 2, false, false, false},
		{0.1, math.Nextafter(0.1, 1), false, false, false},
		{0, minus0, true, true, false},
		{minus0, minus0, true, true, true},
		{nan, nan, false, true, true},
		{nan, math.Float64frombits(0xFFF8000000000123), false, true, true},
		{nan, 0, false, false, false},
		{inf, inf, true, true, true},
		{inf, -inf, false, false, false},
	} {
		for i, want := range []bool{c.strict, c.zero, c.value, false, false, false, false} {
			holdSame(t, number(c.a), number(c.b), hows[i], want)
		}
	}
}

// P18.6: == of each with each: 1 true, 0 false, ? an object that must be made a primitive first.
func TestLoose(t *testing.T) {
	for i, r := range []struct {
		v  api.Value
		is string
	}{
		{api.Value{}, "110000000000000000000000"},
		{null(), "110000000000000000000000"},
		{boolean(0), "001010010000111000000???"},
		{boolean(1), "000101001100000000000???"},
		{number(0), "001010010000111000000???"},
		{number(1), "000101001100000000000???"},
		{number(nan), "000000000000000000000???"},
		{number(minus0), "001010010000111000000???"},
		{text("1"), "000101001000000000000???"},
		{text("0x1"), "000101000100000000000???"},
		{text("a"), "000000000010000000000???"},
		{text("NaN"), "000000000001000000000???"},
		{text(""), "001010010000100000000???"},
		{text(" "), "001010010000010000000???"},
		{text("-0"), "001010010000001000000???"},
		{text("null"), "000000000000000100000???"},
		{text("true"), "000000000000000010000???"},
		{number(2), "000000000000000001000???"},
		{symbol(1), "000000000000000000100???"},
		{symbol(2), "000000000000000000010???"},
		{text("Symbol(1)"), "000000000000000000001???"},
		{reference(1), "00???????????????????100"},
		{reference(2), "00???????????????????010"},
		{reference(0), "00???????????????????001"},
	} {
		row := looseRow()
		if r.v != row[i] && r.v.Num == r.v.Num {
			t.Fatalf("row %d is out of order", i)
		}
		if len(r.is) != len(row) {
			t.Fatalf("row %d has %d places", i, len(r.is))
		}
		for j, b := range row {
			is, known := r.is[j] == '1', r.is[j] != '?'
			for _, x := range []api.Value{r.v, noisy(r.v)} {
				for _, y := range []api.Value{b, noisy(b)} {
					if gotIs, gotKnown := conv.Loose(x, y); gotIs != is || gotKnown != known {
						t.Errorf("Loose(%+v, %+v): %v, %v, not %v, %v", x, y, gotIs, gotKnown, is, known)
					}
				}
			}
		}
	}
}

// looseRow is what TestLoose holds against each other, in the order of its columns.
func looseRow() []api.Value {
	return []api.Value{
		{}, null(), boolean(0), boolean(1), number(0), number(1), number(nan), number(minus0),
		text("1"), text("0x1"), text("a"), text("NaN"), text(""), text(" "), text("-0"), text("null"), text("true"),
		number(2), symbol(1), symbol(2), text("Symbol(1)"), reference(1), reference(2), reference(0),
	}
}

// P18.6: kinds that are none are undefined; a Bool that is neither 0 nor 1 is false; an odd byte does not count.
func TestLooseOdd(t *testing.T) {
	for _, k := range noKinds {
		v := api.Value{Kind: k, Num: 1, Str: of("1"), Ref: 1}
		for _, b := range looseRow() {
			is, known := conv.Loose(api.Value{}, b)
			if gotIs, gotKnown := conv.Loose(v, b); gotIs != is || gotKnown != known {
				t.Errorf("Loose(%+v, %+v): %v, %v", v, b, gotIs, gotKnown)
			}
			if gotIs, gotKnown := conv.Loose(b, v); gotIs != is || gotKnown != known {
				t.Errorf("Loose(%+v, %+v): %v, %v", b, v, gotIs, gotKnown)
			}
		}
	}
	for _, x := range []float64{minus0, 2, -1, 0.5, nan, inf} {
		for _, b := range looseRow() {
			is, known := conv.Loose(boolean(0), b)
			if gotIs, gotKnown := conv.Loose(boolean(x), b); gotIs != is || gotKnown != known {
				t.Errorf("Loose(%+v, %+v): %v, %v", boolean(x), b, gotIs, gotKnown)
			}
		}
	}
	for _, c := range []struct {
		a, b api.Value
		want bool
	}{
		{api.Value{Kind: api.Text, Str: of("1") + "x"}, number(1), true},
		{boolean(0), api.Value{Kind: api.Text, Str: "x"}, true},
		{text("1"), api.Value{Kind: api.Text, Str: of("1") + "x"}, true},
		{number(nan), text("x"), false},
		{number(inf), text(" Infinity"), true},
		{number(31), text("0x1f"), true},
		{boolean(1), text(" 1.0 "), true},
		{boolean(1), text("true"), false},
		{boolean(1), number(2), false},
	} {
		if is, known := conv.Loose(c.a, c.b); is != c.want || !known {
			t.Errorf("Loose(%+v, %+v): %v, %v", c.a, c.b, is, known)
		}
	}
}

// P18.7
func TestGood(t *testing.T) {
	for _, c := range []struct {
		v    api.Value
		want bool
	}{
		{api.Value{}, true},
		{api.Value{Num: 1}, false},
		{api.Value{Num: nan}, false},
		{api.Value{Str: of("a")}, false},
		{api.Value{Ref: 1}, false},
		{null(), true},
		{api.Value{Kind: api.Null, Num: 1}, false},
		{api.Value{Kind: api.Null, Ref: -1}, false},
		{boolean(0), true},
		{boolean(1), true},
		{boolean(minus0), false},
		{boolean(-1), false},
		{boolean(2), false},
		{boolean(math.Nextafter(1, 0)), false},
		{boolean(nan), false},
		{boolean(inf), false},
		{api.Value{Kind: api.Bool, Num: 1, Str: of("a")}, false},
		{api.Value{Kind: api.Bool, Num: 1, Ref: 1}, false},
		{api.Value{Kind: api.Bool, Ref: 1}, false},
		{number(0), true},
		{number(minus0), true},
		{number(nan), true},
		{number(-inf), true},
		{number(1.5), true},
		{api.Value{Kind: api.Number, Str: of("1")}, false},
		{api.Value{Kind: api.Number, Ref: 1}, false},
		{text(""), true},
		{text("a\U0001f600"), true},
		{api.Value{Kind: api.Text, Str: "\xd8\x00"}, true},
		{api.Value{Kind: api.Text, Str: "x"}, false},
		{api.Value{Kind: api.Text, Str: of("ab") + "x"}, false},
		{api.Value{Kind: api.Text, Str: of("a"), Num: 1}, false},
		{api.Value{Kind: api.Text, Str: of("a"), Num: nan}, false},
		{api.Value{Kind: api.Text, Str: of("a"), Ref: 1}, false},
		{symbol(1), true},
		{symbol(math.MaxInt), true},
		{symbol(0), false},
		{symbol(-1), false},
		{api.Value{Kind: api.Symbol, Ref: 1, Num: 1}, false},
		{api.Value{Kind: api.Symbol, Ref: 1, Str: of("a")}, false},
		{reference(1), true},
		{reference(math.MaxInt), true},
		{reference(0), false},
		{reference(math.MinInt), false},
		{api.Value{Kind: api.Object, Ref: 1, Num: -1}, false},
		{api.Value{Kind: api.Object, Ref: 1, Str: of("a")}, false},
	} {
		if got := conv.Good(c.v); got != c.want {
			t.Errorf("Good(%+v): %v", c.v, got)
		}
	}
	for _, k := range noKinds {
		if conv.Good(api.Value{Kind: k}) || conv.Good(api.Value{Kind: k, Num: 1, Ref: 1}) {
			t.Errorf("Good of kind %d", k)
		}
	}
}

// P18.7: a -0 or an odd byte in a field that the kind does not name is neither 0 nor empty.
func TestGoodOtherFields(t *testing.T) {
	for _, v := range []api.Value{{}, null(), boolean(1), boolean(0), number(1), text("a"), symbol(1), reference(1)} {
		if !conv.Good(v) {
			t.Errorf("Good(%+v): false", v)
		}
		if w := v; w.Num == 0 {
			w.Num = minus0
			if conv.Good(w) {
				t.Errorf("Good(%+v): true", w)
			}
		}
		for _, s := range []api.Str{"x", "\x00"} {
			w := v
			w.Str += s
			if conv.Good(w) {
				t.Errorf("Good(%+v): true", w)
			}
		}
	}
}
