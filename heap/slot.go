package heap

import (
	"strings"

	"lintel/api"
	"lintel/units"
)

// slot is what a property has beside its flags. Few have a getter and a setter, so that these lie apart.
type slot struct {
	value api.Value
	pair  *pair
}

type pair struct{ get, set api.Value }

// slotOf is what is kept of p: the fields that count, in memory of its own.
func slotOf(p api.Prop) slot {
	if p.Flags&api.Accessor != 0 {
		return slot{pair: &pair{get: copied(p.Get), set: copied(p.Set)}}
	}
	return slot{value: copied(p.Value)}
}

// prop is the property, for an answer.
func (s *slot) prop(flags int) api.Prop {
	if s.pair != nil {
		return api.Prop{Get: copied(s.pair.get), Set: copied(s.pair.set), Flags: flags}
	}
	return api.Prop{Value: copied(s.value), Flags: flags}
}

// copied is v with a copy of its text: what is kept and what is answered share no memory with anything else.
func copied(v api.Value) api.Value {
	v.Str = api.Str(strings.Clone(string(v.Str)))
	return v
}

// bare is k without the field that does not count, and without an odd byte: keys that are alike are equal then. It shares k's text.
func bare(k api.Key) api.Key {
	if k.Sym > 0 {
		return api.Key{Sym: k.Sym}
	}
	return api.Key{Name: k.Name[:2*units.Len(k.Name)]}
}

// own is k with a copy of its text, for a dictionary to keep.
func own(k api.Key) api.Key {
	return api.Key{Name: units.Cut(k.Name, 0, units.Len(k.Name)), Sym: k.Sym}
}
