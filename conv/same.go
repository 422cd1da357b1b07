package conv

import (
	"lintel/api"
	"lintel/nums"
	"lintel/units"
)

// pair is the kinds of two values.
type pair [2]int

// Same: P18.5, P18.8.
func Same(a, b api.Value, how int) bool {
	kind := kindOf(a)
	if kind != kindOf(b) {
		return false
	}
	switch kind {
	case api.Bool:
		return isTrue(a) == isTrue(b)
	case api.Number:
		return nums.Same(a.Num, b.Num, how)
	case api.Text:
		return units.Compare(a.Str, b.Str) == 0
	case api.Symbol, api.Object:
		return a.Ref == b.Ref
	}
	return true
}

// Loose: P18.6, P18.8.
func Loose(a, b api.Value) (bool, bool) {
	kinds := pair{kindOf(a), kindOf(b)}
	if kinds[0] > kinds[1] {
		// The sides don't matter: each two kinds are one pair, the lower one ahead.
		return Loose(b, a)
	}
	switch {
	case kinds[0] == kinds[1]:
		return Same(a, b, api.SameStrict), true
	case kinds == pair{api.Undefined, api.Null}:
		return true, true
	case kinds[0] == api.Undefined || kinds[0] == api.Null:
		return false, true
	case kinds[0] == api.Bool:
		return Loose(asNumber(a), b)
	case kinds == pair{api.Number, api.Text}:
		return Loose(a, asNumber(b))
	}
	// Primitives that nothing makes alike are told apart; an object may become one that is.
	return false, kinds[1] != api.Object
}

// asNumber is the Number of what has one.
func asNumber(v api.Value) api.Value {
	n, _ := Number(v)
	return api.Value{Kind: api.Number, Num: n}
}

// Good: P18.7, P18.8.
func Good(v api.Value) bool {
	rest, fits := v, true // the fields that v's kind does not name, and whether those that it names may be so
	switch v.Kind {
	case api.Undefined, api.Null:
	case api.Bool:
		if isTrue(v) { // else its Num is just what one that isn't named is
			rest.Num = 0
		}
	case api.Number:
		rest.Num = 0
	case api.Text:
		rest.Str, fits = "", len(v.Str)%2 == 0
	case api.Symbol, api.Object:
		rest.Ref, fits = 0, v.Ref > 0
	default:
		fits = false
	}
	return fits && nums.Same(rest.Num, 0, api.SameValue) && rest.Str == "" && rest.Ref == 0
}
