package vm

import (
	"math"

	"lintel/api"
	"lintel/conv"
	"lintel/digits"
	"lintel/iterate"
	"lintel/keys"
	"lintel/nums"
	"lintel/units"
)

// iterator is what an object of ClassIterator has beside its properties.
type iterator struct {
	next func() (api.Value, bool, bool) // a value; whether it is done; false: something was thrown
	done bool                           // and stays so
}

// open is the iterator of a value, and its next.
func (m *Machine) open(v api.Value) (it, next api.Value) {
	it = m.invoke(m.get(nil, v, m.names.iterator), v)
	m.must(it.Kind == api.Object)
	return it, m.get(nil, it, m.names.next)
}

// step is the next value of an iterator; false: it is done.
func (m *Machine) step(it, next api.Value) (api.Value, bool) {
	if own := m.ownIterator(it, next); own != nil {
		// What the machine's own next answers is an object that nobody sees.
		before := m.enter()
		m.library = true
		v, ok := m.advance(own)
		m.level = before
		return v, ok
	}
	r := m.invoke(next, it)
	m.must(r.Kind == api.Object)
	if conv.Truthy(m.get(nil, r, m.names.done)) {
		return api.Value{}, false
	}
	return m.get(nil, r, m.names.value), true
}

// ownIterator is the machine's own iterator that it is, if next is the machine's own function, too.
func (m *Machine) ownIterator(it, next api.Value) *iterator {
	if f, is := m.thing(next).(*function); !is || f != m.ownNext {
		return nil
	}
	i, _ := m.thing(it).(*iterator)
	return i
}

// advance is the next value of the machine's own iterator; false: it is done.
func (m *Machine) advance(i *iterator) (api.Value, bool) {
	if i.done {
		return api.Value{}, false
	}
	pending := m.pending
	m.pending = nil
	v, done, fine := i.next()
	m.told(fine)
	m.pending = pending
	if done {
		i.done = true
		return api.Value{}, false
	}
	return clean(v), true
}

// finish closes an iterator.
func (m *Machine) finish(it api.Value) {
	f := m.get(nil, it, m.names.ret)
	if !isNone(f) {
		m.must(m.invoke(f, it).Kind == api.Object)
	}
}

// newIterator is an object of the machine's own iterators.
func (m *Machine) newIterator(next func() (api.Value, bool, bool)) api.Value {
	o := m.make(api.ClassIterator, m.protos[api.ClassIterator])
	m.become(o, &iterator{next: next, done: next == nil})
	return o
}

// elements tells the elements of what has a length, up to that as it is then.
func (m *Machine) elements(v api.Value) func() (api.Value, bool, bool) {
	at := 0.0
	return func() (api.Value, bool, bool) {
		i := at // as it is ahead of the length, whose getter may go on with this iterator, too
		if i >= m.length(v) {
			return api.Value{}, true, true
		}
		at = i + 1
		return m.get(nil, v, indexKey(i)), false, true
	}
}

// length is what something has as its length, as a whole number.
func (m *Machine) length(v api.Value) float64 {
	return nums.Length(m.number(m.get(nil, v, m.names.length)))
}

func indexKey(i float64) api.Key {
	if i <= math.MaxUint32 {
		return keys.Of(uint32(i))
	}
	return api.Key{Name: digits.Show(i)}
}

// points tells the code points of a text.
func points(s api.Str) func() (api.Value, bool, bool) {
	at := 0
	return func() (api.Value, bool, bool) {
		for _, r := range units.Points(units.Cut(s, at, at+2)) {
			point := units.Point(r)
			at += units.Len(point)
			return text(point), false, true
		}
		return api.Value{}, true, true
	}
}

// enumerate is the enumeration of a value's keys.
func (m *Machine) enumerate(v api.Value) *enumeration {
	switch v.Kind {
	case api.Object:
		return &enumeration{iterate.New(m.heap, v.Ref).Next}
	case api.Text:
		return &enumeration{indices(units.Len(v.Str))}
	}
	return &enumeration{indices(0)}
}

// indices tells the numbers below size as keys.
func indices(size int) func() (api.Key, bool) {
	at := 0
	return func() (api.Key, bool) {
		if at >= size {
			return api.Key{}, false
		}
		at++
		return keys.Of(uint32(at - 1)), true
	}
}
