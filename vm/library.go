package vm

import (
	"lintel/api"
	"lintel/heap"
	"lintel/units"
)

// Heap: P21.8.
func (m *Machine) Heap() *heap.Heap {
	if !m.isMade() {
		return nil
	}
	return m.heap
}

// Proto: P21.8.
func (m *Machine) Proto(class int) int {
	if !m.isMade() {
		return 0
	}
	return m.protos[class]
}

// Give: P21.8.
func (m *Machine) Give(class, proto int) bool {
	if !m.isMade() || class < protoNumber || class > protoSymbol || !m.heap.Has(proto) {
		return false
	}
	m.protos[class] = proto
	return true
}

// Global: P21.8.
func (m *Machine) Global(name string, v api.Value) bool {
	s, _, e := units.Of(name)
	if !m.isMade() || e != api.OK {
		return false
	}
	if m.globals[s] == nil {
		m.globals[s] = &global{}
	}
	m.globals[s].value = clean(v)
	return true
}

// Make: P21.8.
func (m *Machine) Make(class, proto int) (o api.Value, ok bool) {
	if !m.isMade() || class < api.ClassObject || class > api.ClassIterator || proto != 0 && !m.heap.Has(proto) {
		return api.Value{}, false
	}
	ok = m.guarded(func() { o = m.make(class, proto) })
	return o, ok
}

// Native: P21.8.
func (m *Machine) Native(name string, length int, f Native) (o api.Value, ok bool) {
	s, _, e := units.Of(name)
	if !m.isMade() || e != api.OK {
		return api.Value{}, false
	}
	ok = m.guarded(func() { o = m.newNative(s, length, f) })
	return o, ok
}

// Maker: P21.8.
func (m *Machine) Maker(name string, length int, f, build Native) (o api.Value, ok bool) {
	s, _, e := units.Of(name)
	if !m.isMade() || e != api.OK {
		return api.Value{}, false
	}
	ok = m.guarded(func() {
		proto := m.make(api.ClassObject, m.protos[api.ClassObject])
		o = m.newMaker(s, length, f, build, proto)
	})
	return o, ok
}

// Lay: P21.8.
func (m *Machine) Lay(o api.Value, name string, v api.Value) bool {
	s, _, e := units.Of(name)
	if !m.isMade() || e != api.OK || o.Kind != api.Object || !m.heap.Has(o.Ref) {
		return false
	}
	var laid bool
	d := api.Desc{Has: namesValue, Prop: api.Prop{Value: clean(v), Flags: laidFlags}}
	fine := m.guarded(func() { laid = m.define(o, api.Key{Name: s}, d) })
	return fine && laid
}

// Symbol: P21.8.
func (m *Machine) Symbol(name api.Str) (k api.Key, ok bool) {
	if !m.isMade() {
		return api.Key{}, false
	}
	k, e := m.symbols.Symbol(name)
	if e != api.OK {
		m.Stop()
	}
	return k, e == api.OK
}

// About: P21.8.
func (m *Machine) About(v api.Value) api.Str {
	if !m.isMade() || v.Kind != api.Symbol {
		return ""
	}
	s, _ := m.symbols.About(api.Key{Sym: v.Ref})
	return s
}

// Fail: P21.9.
func (m *Machine) Fail(kind int) (api.Value, bool) {
	if kind < api.TypeError || kind > api.PlainError {
		kind = api.PlainError
	}
	return api.Value{}, m.running(func() { m.fail(kind) })
}

// Throw: P21.9.
func (m *Machine) Throw(v api.Value) (api.Value, bool) {
	return api.Value{}, m.running(func() { m.throw(clean(v)) })
}

// Stop: P21.9.
func (m *Machine) Stop() (api.Value, bool) {
	return api.Value{}, m.running(func() { m.halt(api.EndLimit) })
}

// Charge: P21.9.
func (m *Machine) Charge(n int) bool {
	return m.running(func() { m.burn(max(n, 0)) })
}

// Is: P21.10.
func (m *Machine) Is(v api.Value) bool { return m.isMade() && m.isFunction(v) }

// Call: P21.10.
func (m *Machine) Call(f, this api.Value, args []api.Value) (v api.Value, ok bool) {
	ok = m.running(func() { v = m.invoke(clean(f), clean(this), m.given(args)...) })
	return clean(v), ok
}

// Build: P21.10.
func (m *Machine) Build(f api.Value, args []api.Value) (v api.Value, ok bool) {
	ok = m.running(func() { v = m.construct(clean(f), m.given(args)) })
	return clean(v), ok
}

// given is the arguments that the library calls with.
func (m *Machine) given(args []api.Value) []api.Value {
	if len(args) > api.MaxArgs {
		m.halt(api.EndLimit)
	}
	out := make([]api.Value, len(args))
	for i, v := range args {
		out[i] = clean(v)
	}
	return out
}

// Own: P21.10.
func (m *Machine) Own(v api.Value, k api.Key) (api.Prop, bool) {
	if !m.isMade() {
		return api.Prop{}, false
	}
	return m.own(v, k)
}

// Find: P21.10.
func (m *Machine) Find(v api.Value, k api.Key) (api.Prop, bool) {
	if !m.isMade() {
		return api.Prop{}, false
	}
	return m.find(nil, v, k)
}

// Get: P21.10.
func (m *Machine) Get(v api.Value, k api.Key) (x api.Value, ok bool) {
	ok = m.running(func() { x = m.get(nil, clean(v), k) })
	return clean(x), ok
}

// Set: P21.10.
func (m *Machine) Set(v api.Value, k api.Key, x api.Value) bool {
	return m.running(func() { m.set(clean(v), k, clean(x)) })
}

// Define: P21.10.
func (m *Machine) Define(o api.Value, k api.Key, d api.Desc) (is, ok bool) {
	ok = m.running(func() { is = m.define(o, k, d) })
	return is, ok
}

// Prim: P21.11.
func (m *Machine) Prim(v api.Value, text bool) (p api.Value, ok bool) {
	ok = m.running(func() { p = m.prim(clean(v), text) })
	return clean(p), ok
}

// Number: P21.11.
func (m *Machine) Number(v api.Value) (x float64, ok bool) {
	ok = m.running(func() { x = m.number(clean(v)) })
	return x, ok
}

// Text: P21.11.
func (m *Machine) Text(v api.Value) (s api.Str, ok bool) {
	ok = m.running(func() { s = m.text(clean(v)) })
	return s, ok
}

// Key: P21.11.
func (m *Machine) Key(v api.Value) (k api.Key, ok bool) {
	ok = m.running(func() { k = m.key(clean(v)) })
	return k, ok
}

// Iterate: P21.12.
func (m *Machine) Iterate(v api.Value, f func(api.Value) bool) bool {
	return m.running(func() { m.iterate(clean(v), f) })
}

// iterate tells the library what iterating a value tells.
func (m *Machine) iterate(v api.Value, f func(api.Value) bool) {
	it, next := m.open(v)
	for {
		x, more := m.step(it, next)
		if !more {
			return
		}
		m.pending = nil
		if f != nil && f(x) {
			m.goOn()
			continue
		}
		m.goOn()
		if t := m.pending; t != nil {
			m.quietly(func() { m.finish(it) })
			panic(*t)
		}
		m.finish(it)
		return
	}
}

// Iterator: P21.12.
func (m *Machine) Iterator(next func() (api.Value, bool, bool)) (o api.Value, ok bool) {
	if !m.isMade() {
		return api.Value{}, false
	}
	ok = m.guarded(func() { o = m.newIterator(next) })
	return o, ok
}
