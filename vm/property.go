package vm

import (
	"lintel/api"
	"lintel/array"
	"lintel/keys"
	"lintel/object"
	"lintel/units"
)

// maxAlong is how many objects along prototypes are looked at.
const maxAlong = 1000

const allFlags = api.Writable | api.Enumerable | api.Configurable

// namesValue is what a description of a whole property with a value names.
const namesValue = api.HasValue | api.HasWritable | api.HasEnumerable | api.HasConfigurable

// laidFlags are those of what the machine and the library lay.
const laidFlags = api.Writable | api.Configurable

func isNone(v api.Value) bool { return v.Kind == api.Undefined || v.Kind == api.Null }

func isAccessor(p api.Prop) bool { return p.Flags&api.Accessor != 0 }

// ownOfText is the own property of a text.
func (m *Machine) ownOfText(s api.Str, k api.Key) (api.Prop, bool) {
	if k.Sym > 0 {
		return api.Prop{}, false
	}
	if units.Compare(k.Name, m.names.length.Name) == 0 {
		return api.Prop{Value: number(float64(units.Len(s)))}, true
	}
	i, is := keys.Index(k.Name)
	if !is || int(i) >= units.Len(s) {
		return api.Prop{}, false
	}
	return api.Prop{Value: text(units.Cut(s, int(i), int(i)+1)), Flags: api.Enumerable}, true
}

// own is an own property of any value.
func (m *Machine) own(v api.Value, k api.Key) (api.Prop, bool) {
	switch v.Kind {
	case api.Text:
		return m.ownOfText(v.Str, k)
	case api.Object:
		return m.heap.Own(v.Ref, k)
	}
	return api.Prop{}, false
}

// first is the object at which properties of a value are looked for first, beside those that a text has itself; 0: none.
func (m *Machine) first(v api.Value) int {
	switch v.Kind {
	case api.Object:
		return v.Ref
	case api.Text:
		return m.protos[protoText]
	case api.Number:
		return m.protos[protoNumber]
	case api.Bool:
		return m.protos[protoBool]
	case api.Symbol:
		return m.protos[protoSymbol]
	}
	return 0
}

// find is a value's own property or the first along the prototypes, asked by a site's caches; nil: by none.
func (m *Machine) find(s *site, v api.Value, k api.Key) (api.Prop, bool) {
	if v.Kind == api.Text {
		if p, is := m.ownOfText(v.Str, k); is {
			return p, true
		}
	}
	at := m.first(v)
	for n := 0; n < maxAlong && m.heap.Has(at); n++ {
		if p, is := m.heap.By(m.cache(s, n), at, k); is {
			return p, true
		}
		at = m.heap.Proto(at)
	}
	return api.Prop{}, false
}

func (m *Machine) get(s *site, v api.Value, k api.Key) api.Value {
	m.must(!isNone(v))
	p, is := m.find(s, v, k)
	switch {
	case !is:
		return api.Value{}
	case !isAccessor(p):
		return p.Value
	case isNone(p.Get):
		return api.Value{}
	}
	return m.invoke(p.Get, v)
}

func (m *Machine) set(v api.Value, k api.Key, x api.Value) {
	if v.Kind != api.Object {
		p, _ := m.find(nil, v, k)
		m.invoke(p.Set, v, x) // a TypeError, unless there is a setter
		return
	}
	m.touch(v.Ref)
	how, setter, bad, e := array.Set(m.heap, v.Ref, k, x, v.Ref)
	m.hold(e)
	m.mayBe(!bad)
	m.must(how != api.SetRefused)
	if how == api.SetCall {
		m.invoke(setter, v, x)
	}
}

// mayBe throws a RangeError, unless what was to be a length may be one.
func (m *Machine) mayBe(ok bool) {
	if !ok {
		m.fail(api.RangeError)
	}
}

// define says whether a description was taken over.
func (m *Machine) define(o api.Value, k api.Key, d api.Desc) bool {
	m.must(o.Kind == api.Object)
	m.touch(o.Ref)
	ok, bad, e := array.Define(m.heap, o.Ref, k, d)
	m.hold(e)
	m.mayBe(!bad)
	return ok
}

// create is CreateDataProperty; it throws where that is refused.
func (m *Machine) create(o api.Value, k api.Key, v api.Value) {
	m.must(m.define(o, k, api.Desc{Has: namesValue, Prop: api.Prop{Value: v, Flags: allFlags}}))
}

// lay gives an object that the machine or the library has made a property.
func (m *Machine) lay(o api.Value, k api.Key, v api.Value, flags int) {
	m.touch(o.Ref)
	m.hold(m.heap.Put(o.Ref, k, api.Prop{Value: v, Flags: flags}))
}

func (m *Machine) remove(v api.Value, k api.Key) {
	m.must(!isNone(v))
	if v.Kind == api.Object {
		m.must(object.Delete(m.heap, v.Ref, k))
		return
	}
	_, is := m.own(v, k)
	m.must(!is)
}

// has is in.
func (m *Machine) has(k, o api.Value) bool {
	m.must(o.Kind == api.Object)
	_, is := m.find(nil, o, m.key(k))
	return is
}

// isInstance is instanceof.
func (m *Machine) isInstance(v, f api.Value) bool {
	m.callable(f)
	if v.Kind != api.Object {
		return false
	}
	proto := m.get(nil, f, m.names.prototype)
	m.must(proto.Kind == api.Object)
	at := m.heap.Proto(v.Ref)
	for n := 0; n < maxAlong && at != 0; n++ {
		if at == proto.Ref {
			return true
		}
		at = m.heap.Proto(at)
	}
	return false
}

// make is a new object.
func (m *Machine) make(class, proto int) api.Value {
	if class == api.ClassArray {
		o, e := array.Make(m.heap, proto)
		m.hold(e)
		m.touch(o)
		return reference(o)
	}
	o, e := m.heap.Make(class, proto)
	m.hold(e)
	return reference(o)
}

func reference(o int) api.Value { return api.Value{Kind: api.Object, Ref: o} }

// list is a new array of values as registers have them.
func (m *Machine) list(l []any) api.Value {
	o := m.make(api.ClassArray, m.protos[api.ClassArray])
	for _, r := range l {
		v, _ := valueOf(r)
		m.append(o, v)
	}
	return o
}

// append puts a value behind an array.
func (m *Machine) append(o, v api.Value) {
	m.touch(o.Ref)
	ok, e := array.Push(m.heap, o.Ref, v)
	m.hold(e)
	m.must(ok)
}
