package gen_test

import (
	"lintel/api"
	"lintel/code"
	"lintel/units"
)

// What a register may have beside values.
type (
	unset struct{} // nothing was put there
	hole  struct{}
	cell  struct{ value any }
	list  struct{ values []any }
)

// frame is a call of a function of a module.
type frame struct {
	*world
	module api.Module
	fn     *api.Fn
	regs   []any
	caps   []*cell
	this   any
	callee *object
	at     int
	answer any
}

// runModule runs a module as chapter 21 says, instruction by instruction. It is stricter than that about registers: those that nothing was
// put into may not be read, and cells and lists are not moved.
func runModule(m api.Module, w *world) outcome {
	return w.ended(func() { w.frame(m, 0, nil, nil, nil, nil) })
}

func (w *world) frame(m api.Module, number int, caps []*cell, this any, callee *object, args []any) any {
	f := &frame{world: w, module: m, fn: &m.Fns[number], caps: caps, this: this, callee: callee}
	f.regs = make([]any, f.fn.Regs)
	for i := range f.regs {
		f.regs[i] = unset{}
	}
	for i := range f.fn.Params {
		f.regs[i] = nil
		if i < len(args) {
			f.regs[i] = args[i]
		}
	}
	if f.fn.Rest {
		f.regs[f.fn.Params] = w.list(args[min(len(args), f.fn.Params):]...)
	}
	for {
		t, done := f.run()
		if done {
			return f.answer
		}
		f.unwind(t)
	}
}

// unwind goes on where what was thrown is caught.
func (f *frame) unwind(t thrown) {
	for _, try := range f.fn.Tries {
		if try.From <= f.at && f.at < try.To {
			f.regs[try.Reg] = t.value
			f.at = try.At
			return
		}
	}
	panic(t)
}

// run goes on till the function answers, or something is thrown.
func (f *frame) run() (t thrown, done bool) {
	defer func() {
		if p := recover(); p != nil {
			caught, ok := p.(thrown)
			if !ok {
				panic(p) // what stops a run is not caught
			}
			t = caught
		}
	}()
	for {
		f.step()
		i := f.fn.Code[f.at]
		if i.Op == api.OpReturn {
			f.answer = f.value(i.A)
			return t, true
		}
		if to := f.do(i); to >= 0 {
			f.at = to
		} else {
			f.at++
		}
	}
}

func (f *frame) hold(ok bool, why string) {
	if !ok {
		panic(stuck{why + ": " + code.Name(f.fn.Code[f.at].Op)})
	}
}

// value is a register's value.
func (f *frame) value(n int) any {
	_, isHole := f.regs[n].(hole)
	f.hold(!isHole, "the hole")
	return f.any(n)
}

// any is a register's value, or the hole.
func (f *frame) any(n int) any {
	switch f.regs[n].(type) {
	case unset, *cell, *list, *enumeration:
		f.hold(false, "no value")
	}
	return f.regs[n]
}

func (f *frame) cell(n int) *cell {
	c, ok := f.regs[n].(*cell)
	f.hold(ok, "no cell")
	return c
}

func (f *frame) list(n int) []any {
	l, ok := f.regs[n].(*list)
	f.hold(ok, "no list")
	if len(l.values) > api.MaxArgs {
		panic(stop{})
	}
	return l.values
}

func (f *frame) constant(n int) any {
	c := f.fn.Consts[n]
	if c.Kind == api.Text {
		return units.Text(c.Str)
	}
	return c.Num
}

func (f *frame) textConstant(n int) string { return f.constant(n).(string) }

// do does an instruction but Return; from 0 on: where it goes on.
func (f *frame) do(i api.Ins) int {
	switch {
	case i.Op >= api.OpBinary:
		f.regs[i.A] = f.binary(code.Name(i.Op), f.value(i.B), f.value(i.C))
	case i.Op >= api.OpPlus:
		signs := []string{"+", "-", "~", "!", "typeof"}
		f.regs[i.A] = f.unary(signs[i.Op-api.OpPlus], f.value(i.B))
	case i.Op >= api.OpKeys:
		return f.doLoop(i)
	case i.Op >= api.OpObject:
		f.doObject(i)
	case i.Op >= api.OpJump:
		return f.doJump(i)
	default:
		f.doName(i)
	}
	return -1
}

func (f *frame) doJump(i api.Ins) int {
	switch i.Op {
	case api.OpJump:
		return i.A
	case api.OpIf:
		if truthy(f.value(i.A)) {
			return i.B
		}
	case api.OpNot:
		if !truthy(f.value(i.A)) {
			return i.B
		}
	case api.OpSame:
		if f.value(i.A) == any(float64(i.B)) {
			return i.C
		}
	}
	return -1
}

func (f *frame) doName(i api.Ins) {
	switch i.Op {
	case api.OpLoad:
		f.regs[i.A] = []any{nil, null{}, true, false, hole{}}[i.B]
	case api.OpConst:
		f.regs[i.A] = f.constant(i.B)
	case api.OpMove:
		f.regs[i.A] = f.any(i.B)
	case api.OpThis:
		f.regs[i.A] = f.this
	case api.OpCallee:
		f.regs[i.A] = f.callee
	case api.OpGlobal, api.OpTry:
		p := f.globals[f.textConstant(i.B)]
		if p == nil && i.Op == api.OpGlobal {
			f.fail("ReferenceError")
		}
		f.regs[i.A] = nil
		if p != nil {
			f.regs[i.A] = p.value
		}
	case api.OpAssign:
		f.assign(f.textConstant(i.A), f.value(i.B))
	case api.OpCell:
		f.regs[i.A] = &cell{f.any(i.B)}
	case api.OpPeek:
		f.regs[i.A] = f.cell(i.B).value
	case api.OpPoke:
		f.cell(i.A).value = f.value(i.B)
	case api.OpUp:
		f.regs[i.A] = f.caps[i.B].value
	case api.OpUpSet:
		f.caps[i.A].value = f.value(i.B)
	case api.OpAsk:
		if _, ok := f.any(i.A).(hole); ok {
			f.fail("ReferenceError")
		}
		f.textConstant(i.B)
	case api.OpFixed:
		f.textConstant(i.A)
		f.fail("TypeError")
	case api.OpClosure:
		f.regs[i.A] = f.closure(i.B)
	}
}

func (f *frame) closure(number int) *object {
	fn := &f.module.Fns[number]
	var caps []*cell
	for _, c := range fn.Caps {
		if c.Up {
			caps = append(caps, f.caps[c.N])
		} else {
			caps = append(caps, f.cell(c.N))
		}
	}
	module, w, outer := f.module, f.world, f.this
	return w.function(units.Text(fn.Name), fn.Params, fn.Arrow, func(this any, callee *object, args []any) any {
		if fn.Arrow {
			this = outer
		}
		return w.frame(module, number, caps, this, callee, args)
	})
}

func (f *frame) doObject(i api.Ins) {
	switch i.Op {
	case api.OpObject:
		f.regs[i.A] = f.object()
	case api.OpArray:
		f.regs[i.A] = f.world.list()
	case api.OpList:
		f.regs[i.A] = &list{}
	case api.OpPush:
		f.push(i.A, f.value(i.B))
	case api.OpSpread:
		it, next := f.open(f.value(i.B))
		for v, ok := f.stepOn(it, next); ok; v, ok = f.stepOn(it, next) {
			f.world.step()
			f.push(i.A, v)
		}
	case api.OpPut:
		f.literal(i.A).put(f.keyOf(i.B), f.value(i.C))
	case api.OpGetter, api.OpSetter:
		f.literal(i.A).accessor(f.keyOf(i.B), f.value(i.C), i.Op == api.OpSetter)
	case api.OpGet:
		f.regs[i.A] = f.get(f.value(i.B), f.keyOf(i.C))
	case api.OpSet:
		f.set(f.value(i.A), f.keyOf(i.B), f.value(i.C))
	case api.OpDelete:
		f.regs[i.A] = f.remove(f.value(i.B), f.keyOf(i.C))
	case api.OpKey:
		f.regs[i.A] = f.key(f.value(i.B))
	case api.OpCall:
		f.regs[i.A] = f.call(f.value(i.B), f.value(i.C), f.list(i.D)...)
	case api.OpNew:
		f.regs[i.A] = f.build(f.value(i.B), f.list(i.C))
	case api.OpThrow:
		panic(thrown{f.value(i.A)})
	}
}

func (f *frame) push(n int, v any) {
	if l, ok := f.regs[n].(*list); ok {
		l.values = append(l.values, v)
		return
	}
	o, ok := f.regs[n].(*object)
	f.hold(ok && o.array, "no list")
	o.push(v)
}

// literal is the object of a literal.
func (f *frame) literal(n int) *object {
	o, ok := f.regs[n].(*object)
	f.hold(ok, "no object")
	return o
}

// keyOf is a register's value, which must be a key already.
func (f *frame) keyOf(n int) any {
	switch v := f.value(n).(type) {
	case string, *symbol:
		return v
	}
	f.hold(false, "no key")
	return nil
}

func (f *frame) doLoop(i api.Ins) int {
	switch i.Op {
	case api.OpKeys:
		f.regs[i.A] = enumerate(f.value(i.B))
	case api.OpNext:
		e, ok := f.regs[i.B].(*enumeration)
		f.hold(ok, "no enumeration")
		k, ok := e.step()
		if !ok {
			return i.C
		}
		f.regs[i.A] = k
	case api.OpIter:
		f.regs[i.A], f.regs[i.A+1] = f.open(f.value(i.B))
	case api.OpStep:
		v, ok := f.stepOn(f.value(i.B), f.value(i.B+1))
		if !ok {
			return i.C
		}
		f.regs[i.A] = v
	case api.OpClose:
		f.closeIterator(f.value(i.A))
	case api.OpQuiet:
		quietly(func() { f.closeIterator(f.value(i.A)) })
	case api.OpText:
		f.regs[i.A] = f.text(f.value(i.B))
	case api.OpDone:
		f.world.value = f.value(i.A)
	}
	return -1
}
