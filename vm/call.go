package vm

import "lintel/api"

// function is what an object that may be called has beside its properties: a function of a module, or one of the library.
type function struct {
	body *body // nil: it is the library's
	caps []*cell
	this any // an arrow's

	call  Native
	build Native // what new calls; nil: new is a TypeError
}

func (f *function) mayBuild() bool {
	if f.body != nil {
		return !f.body.Arrow
	}
	return f.build != nil
}

// thing is what a value is beside its properties.
func (m *Machine) thing(v api.Value) any {
	if v.Kind != api.Object || v.Ref < 0 || v.Ref >= len(m.things) {
		return nil
	}
	return m.things[v.Ref]
}

// become says what an object is beside its properties.
func (m *Machine) become(o api.Value, thing any) {
	for o.Ref >= len(m.things) {
		m.things = append(m.things, nil)
	}
	m.things[o.Ref] = thing
}

func (m *Machine) isFunction(v api.Value) bool {
	_, is := m.thing(v).(*function)
	return is
}

// callable is the function that a value is; it throws, if it is none.
func (m *Machine) callable(v api.Value) *function {
	f, is := m.thing(v).(*function)
	m.must(is)
	return f
}

// invoke calls a function for somebody else than a frame.
func (m *Machine) invoke(f, this api.Value, args ...api.Value) api.Value {
	return m.apply(m.callable(f), call{this: boxed(this), self: boxed(f), args: boxes(args)})
}

// apply is as invoke, of what is known to be a function.
func (m *Machine) apply(f *function, c call) api.Value {
	if f.body == nil {
		return m.ask(f.call, c)
	}
	before, base := m.enter(), len(m.frames)
	m.push(f, c, -1)
	v := m.drive(base)
	m.level = before
	return v
}

// ask calls a function of the library.
func (m *Machine) ask(f Native, c call) (v api.Value) {
	before, pending := m.enter(), m.pending
	m.library, m.pending = true, nil
	if f != nil {
		var fine bool
		this, _ := valueOf(c.this)
		v, fine = f(m, this, unboxed(c.args))
		m.told(fine)
	}
	m.level, m.pending = before, pending
	return clean(v)
}

// construct is new for somebody else than a frame.
func (m *Machine) construct(v api.Value, args []api.Value) api.Value {
	f := m.callable(v)
	c := m.building(f, v, boxes(args))
	if f.body == nil {
		return m.builtBy(f, c)
	}
	return m.apply(f, c)
}

// building is what new calls f with.
func (m *Machine) building(f *function, v api.Value, args []any) call {
	m.must(f.mayBuild())
	proto := m.get(nil, v, m.names.prototype)
	if proto.Kind != api.Object {
		proto.Ref = m.protos[api.ClassObject]
	}
	return call{this: m.make(api.ClassObject, proto.Ref), self: boxed(v), args: args, built: true}
}

// builtBy is what a function of the library builds: the new object, unless it answers another.
func (m *Machine) builtBy(f *function, c call) api.Value {
	if v := m.ask(f.build, c); v.Kind == api.Object {
		return v
	}
	return c.this.(api.Value)
}

// script runs the script of a module.
func (m *Machine) script(b *body) {
	before, base := m.level, len(m.frames)
	if m.calls > 0 {
		m.deeper() // it is the library that runs it: else that might go on so forever
	}
	m.push(&function{body: b}, call{}, -1)
	m.drive(base)
	m.level = before
}

// clean is v with nothing but what its kind names, in memory of its own.
func clean(v api.Value) api.Value {
	switch v.Kind {
	case api.Null:
		return api.Value{Kind: v.Kind}
	case api.Bool:
		return truth(v.Num == 1)
	case api.Number:
		return number(v.Num)
	case api.Text:
		return text(copied(v.Str))
	case api.Symbol, api.Object:
		return api.Value{Kind: v.Kind, Ref: v.Ref}
	}
	return api.Value{}
}

func cleanAll(l []api.Value) []api.Value {
	out := make([]api.Value, len(l))
	for i, v := range l {
		out[i] = clean(v)
	}
	return out
}

func number(x float64) api.Value { return api.Value{Kind: api.Number, Num: x} }

func text(s api.Str) api.Value { return api.Value{Kind: api.Text, Str: s} }

func truth(is bool) api.Value {
	if is {
		return api.Value{Kind: api.Bool, Num: 1}
	}
	return api.Value{Kind: api.Bool}
}

func boxes(l []api.Value) []any {
	out := make([]any, len(l))
	for i, v := range l {
		out[i] = boxed(v)
	}
	return out
}

// unboxed is values, of which there are no others in l, in memory of their own.
func unboxed(l []any) []api.Value {
	out := make([]api.Value, len(l))
	for i, r := range l {
		out[i], _ = valueOf(r)
	}
	return out
}
