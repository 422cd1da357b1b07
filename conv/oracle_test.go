package conv_test

import (
	"math"
	"testing"

	"lintel/api"
	"lintel/conv"
	"lintel/digits"
	"lintel/nums"
)

// grown lists values of all kinds, those that are none among them, with fields of all sorts, named by their kinds or not.
func grown() []api.Value {
	var out []api.Value
	for _, kind := range []int{math.MinInt, -1, 0, 1, 2, 3, 4, 5, 6, 7} {
		for _, x := range []float64{0, minus0, 1, -1, 2, 31, nan, inf} {
			for _, s := range []api.Str{"", "x", of("1"), of("1") + "x", of(" 31 "), of("-0"), of("NaN"), of("a")} {
				for _, ref := range []int{0, 1, -1} {
					out = append(out, api.Value{Kind: kind, Num: x, Str: s, Ref: ref})
				}
			}
		}
	}
	return out
}

// plain is v with the fields that its kind names alone, and in these with what counts.
func plain(v api.Value) api.Value {
	switch v.Kind {
	case api.Null:
		return null()
	case api.Bool:
		if v.Num != 1 {
			return boolean(0)
		}
		return boolean(1)
	case api.Number:
		return number(v.Num)
	case api.Text:
		return api.Value{Kind: api.Text, Str: v.Str[:len(v.Str)/2*2]}
	case api.Symbol:
		return symbol(v.Ref)
	case api.Object:
		return reference(v.Ref)
	}
	return api.Value{}
}

// wordsSame is an oracle for P18.5, of plain values.
func wordsSame(a, b api.Value, how int) bool {
	if a.Kind == api.Number && b.Kind == api.Number {
		return nums.Same(a.Num, b.Num, how)
	}
	return a == b
}

// wordsLoose is an oracle for P18.6, of plain values: ECMA-262's steps, in their order.
func wordsLoose(a, b api.Value) (bool, bool) {
	isVoid := func(v api.Value) bool { return v.Kind == api.Undefined || v.Kind == api.Null }
	switch {
	case a.Kind == b.Kind:
		return wordsSame(a, b, api.SameStrict), true
	case isVoid(a) && isVoid(b):
		return true, true
	case isVoid(a) || isVoid(b):
		return false, true
	case a.Kind == api.Number && b.Kind == api.Text:
		return a.Num == digits.Read(b.Str), true
	case a.Kind == api.Text && b.Kind == api.Number:
		return digits.Read(a.Str) == b.Num, true
	case a.Kind == api.Bool:
		return wordsLoose(number(a.Num), b)
	case b.Kind == api.Bool:
		return wordsLoose(a, number(b.Num))
	case a.Kind == api.Object || b.Kind == api.Object:
		return false, false
	}
	return false, true
}

// P18.1 to P18.4, P18.7: what does not count changes nothing; what is good is plain.
func TestGrown(t *testing.T) {
	for _, v := range grown() {
		p := plain(v)
		if conv.Truthy(v) != conv.Truthy(p) || conv.Type(v) != conv.Type(p) {
			t.Errorf("%+v: %v, %s", v, conv.Truthy(v), conv.Type(v))
		}
		x, is := conv.Number(v)
		if y, also := conv.Number(p); !alike(x, y) || is != also || is != (p.Kind < api.Symbol) {
			t.Errorf("Number(%+v): %v, %v", v, x, is)
		}
		s, is := conv.Text(v)
		if r, also := conv.Text(p); s != r || is != also || is != (p.Kind < api.Symbol) {
			t.Errorf("Text(%+v): %x, %v", v, s, is)
		}
		k, is := conv.Key(v)
		if is != (p.Kind < api.Symbol || p.Kind == api.Symbol && v.Ref > 0) || !is && k != (api.Key{}) {
			t.Errorf("Key(%+v): %+v, %v", v, k, is)
		}
		if is && p.Kind == api.Symbol && k != (api.Key{Sym: v.Ref}) || is && p.Kind != api.Symbol && k != (api.Key{Name: s}) {
			t.Errorf("Key(%+v): %+v", v, k)
		}
		there := p.Kind < api.Symbol || p.Ref > 0
		isPlain := v.Kind == p.Kind && alike(v.Num, p.Num) && v.Str == p.Str && v.Ref == p.Ref
		if conv.Good(v) != (isPlain && there) {
			t.Errorf("Good(%+v): %v", v, conv.Good(v))
		}
	}
}

// P18.5, P18.6: each of some of all with each.
func TestGrownPairs(t *testing.T) {
	all := grown()
	for i := 0; i < len(all); i += 3 {
		for j := 0; j < len(all); j += 2 {
			a, b := all[i], all[j]
			p, q := plain(a), plain(b)
			for _, how := range hows[:4] {
				if got := conv.Same(a, b, how); got != wordsSame(p, q, how) {
					t.Fatalf("Same(%+v, %+v, %d): %v", a, b, how, got)
				}
			}
			is, known := conv.Loose(a, b)
			if wantIs, wantKnown := wordsLoose(p, q); is != wantIs || known != wantKnown {
				t.Fatalf("Loose(%+v, %+v): %v, %v", a, b, is, known)
			}
		}
	}
}

// goods lists good values, some of them twice.
func goods() []api.Value {
	l := []api.Value{
		{}, {}, null(), null(), boolean(0), boolean(0), boolean(1), boolean(1),
		number(0), number(minus0), number(1), number(1), number(nan), number(math.Float64frombits(0xFFF8000000000001)), number(inf), number(-inf),
		text(""), text(""), text("0"), text("1"), text(" 1"), text("1.0"), text("NaN"), text("NaN"), text("Infinity"), text("true"),
		symbol(1), symbol(1), symbol(2), symbol(math.MaxInt), reference(1), reference(1), reference(2), reference(math.MaxInt),
	}
	for _, v := range grown() {
		if conv.Good(v) {
			l = append(l, v)
		}
	}
	return l
}

// P18.8
func TestEquivalence(t *testing.T) {
	l := goods()
	for _, how := range hows {
		for _, a := range l {
			if (how == api.SameZero || how == api.SameValue) && !conv.Same(a, a, how) {
				t.Errorf("%+v is not the same as itself by %d", a, how)
			}
			for _, b := range l {
				if conv.Same(a, b, how) != conv.Same(b, a, how) {
					t.Errorf("Same(%+v, %+v, %d) is not symmetric", a, b, how)
				}
				holdGoesOn(t, a, b, how, l)
			}
		}
	}
}

// holdGoesOn holds that what b is the same as, a is, too, if a and b are the same.
func holdGoesOn(t *testing.T, a, b api.Value, how int, l []api.Value) {
	if !conv.Same(a, b, how) {
		return
	}
	for _, c := range l {
		if conv.Same(b, c, how) && !conv.Same(a, c, how) {
			t.Errorf("Same by %d does not go on from %+v by %+v to %+v", how, a, b, c)
		}
	}
}

// P18.8
func TestLooseSymmetric(t *testing.T) {
	l := append(goods(), looseRow()...)
	for _, a := range l {
		for _, b := range l {
			is, known := conv.Loose(a, b)
			if back, also := conv.Loose(b, a); back != is || also != known {
				t.Errorf("Loose(%+v, %+v) is not symmetric", a, b)
			}
			if is && !known {
				t.Errorf("Loose(%+v, %+v): true, false", a, b)
			}
		}
	}
}
