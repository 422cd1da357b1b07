package vm

import (
	"lintel/api"
	"lintel/conv"
	"lintel/keys"
)

func (f *frame) doObject(i api.Ins) {
	f.put(i.A, f.m.make(api.ClassObject, f.m.protos[api.ClassObject]))
}

func (f *frame) doArray(i api.Ins) { f.put(i.A, f.m.list(nil)) }

func (f *frame) doList(i api.Ins) { f.regs[i.A] = &list{} }

func (f *frame) doPush(i api.Ins) { f.pusher(i.A)(f.wanted(i.B)) }

func (f *frame) doSpread(i api.Ins) {
	push := f.pusher(i.A)
	it, next := f.m.open(f.value(i.B))
	for v, ok := f.m.step(it, next); ok; v, ok = f.m.step(it, next) {
		push(boxed(v))
	}
}

// pusher is what puts values behind the list or array in a register.
func (f *frame) pusher(n int) func(any) {
	if l, is := f.regs[n].(*list); is {
		return func(r any) {
			if len(l.values) >= api.MaxArgs {
				f.m.halt(api.EndLimit) // a list is what somebody is called with
			}
			l.values = append(l.values, r)
		}
	}
	o := f.value(n)
	f.stuck(o.Kind == api.Object && f.m.heap.Class(o.Ref) == api.ClassArray)
	return func(r any) {
		v, _ := valueOf(r)
		f.m.append(o, v)
	}
}

func (f *frame) doPut(i api.Ins) {
	o, v := f.value(i.A), f.value(i.C)
	f.m.create(o, f.key(i.B), v)
}

func (f *frame) doGetter(i api.Ins) {
	f.accessor(i, api.Desc{Has: api.HasGet, Prop: api.Prop{Get: f.value(i.C)}})
}

func (f *frame) doSetter(i api.Ins) {
	f.accessor(i, api.Desc{Has: api.HasSet, Prop: api.Prop{Set: f.value(i.C)}})
}

// accessor lays the getter or setter of a literal.
func (f *frame) accessor(i api.Ins, d api.Desc) {
	o, k := f.value(i.A), f.key(i.B)
	d.Has |= api.HasEnumerable | api.HasConfigurable
	d.Prop.Flags = api.Enumerable | api.Configurable
	f.m.must(f.m.define(o, k, d))
}

func (f *frame) doGet(i api.Ins) {
	v, k := f.value(i.B), f.key(i.C)
	f.put(i.A, f.m.get(f.site(k), v, k))
}

// site is the caches of the instruction that is done; nil of an index, which is another one each time.
func (f *frame) site(k api.Key) *site {
	if _, is := keys.Index(k.Name); is {
		return nil
	}
	return &f.sites[f.at-1]
}

func (f *frame) doSet(i api.Ins) {
	o, v := f.value(i.A), f.value(i.C)
	f.m.set(o, f.key(i.B), v)
}

func (f *frame) doDelete(i api.Ins) {
	v := f.value(i.B)
	f.m.remove(v, f.key(i.C))
	f.put(i.A, truth(true))
}

func (f *frame) doKey(i api.Ins) { f.put(i.A, conv.Of(f.key(i.B))) }

func (f *frame) doCall(i api.Ins) {
	v, this, args := f.value(i.B), f.wanted(i.C), f.arguments(i.D)
	x, c := f.m.callable(v), call{this: this, self: f.regs[i.B], args: args}
	if x.body == nil {
		f.put(i.A, f.m.ask(x.call, c))
		return
	}
	f.m.enter()
	f.m.push(x, c, i.A)
}

func (f *frame) doNew(i api.Ins) {
	v, args := f.value(i.B), f.arguments(i.C)
	x := f.m.callable(v)
	c := f.m.building(x, v, args)
	if x.body == nil {
		f.put(i.A, f.m.builtBy(x, c))
		return
	}
	f.m.enter()
	f.m.push(x, c, i.A)
}

func (f *frame) doKeys(i api.Ins) { f.regs[i.A] = f.m.enumerate(f.value(i.B)) }

func (f *frame) doNext(i api.Ins) {
	e, is := f.regs[i.B].(*enumeration)
	f.stuck(is)
	k, ok := e.next()
	if !ok {
		f.at = i.C
		return
	}
	f.put(i.A, text(k.Name))
}

func (f *frame) doIter(i api.Ins) {
	it, next := f.m.open(f.value(i.B))
	f.put(i.A, it)
	f.put(i.A+1, next)
}

func (f *frame) doStep(i api.Ins) {
	it, next := f.value(i.B), f.value(i.B+1)
	v, ok := f.m.step(it, next)
	if !ok {
		f.at = i.C
		return
	}
	f.put(i.A, v)
}

func (f *frame) doClose(i api.Ins) { f.m.finish(f.value(i.A)) }

func (f *frame) doQuiet(i api.Ins) {
	it := f.value(i.A)
	f.m.quietly(func() { f.m.finish(it) })
}
