package vm

import "lintel/api"

// What a register may have beside values (of which undefined is nil).
type (
	hole        struct{} // a let or const that its declaration has not come to
	cell        struct{ value any }
	list        struct{ values []any }
	enumeration struct{ next func() (api.Key, bool) }
)

// frame is a call of a function of a module.
type frame struct {
	*body
	m     *Machine
	level level // at which it goes on
	regs  []any
	caps  []*cell
	this  any
	self  any // the function itself
	at    int // the next instruction
	to    int // the register of the frame about it that gets the answer; -1: somebody else asks for it
	built bool
}

// call is what a function is called with.
type call struct {
	this, self any
	args       []any
	built      bool
}

// push begins a call of a function of a module, at the level that it goes on at.
func (m *Machine) push(f *function, c call, to int) {
	m.library = false
	b := f.body
	x := &frame{body: b, m: m, level: m.level, regs: make([]any, b.Regs), caps: f.caps, this: c.this, self: c.self, to: to, built: c.built}
	if b.Arrow {
		x.this = f.this
	}
	copy(x.regs[:b.Params], c.args)
	m.frames = append(m.frames, x)
	if b.Rest {
		x.regs[b.Params] = m.list(c.args[min(b.Params, len(c.args)):])
	}
}

func (m *Machine) innermost() *frame { return m.frames[len(m.frames)-1] }

// leave ends all frames but so many; what they had need not be kept.
func (m *Machine) leave(frames int) {
	clear(m.frames[frames:])
	m.frames = m.frames[:frames]
}

// pop ends the innermost frame with its answer.
func (m *Machine) pop(v api.Value) {
	f := m.innermost()
	m.leave(len(m.frames) - 1)
	if f.built && v.Kind != api.Object {
		v, _ = valueOf(f.this)
	}
	if f.to < 0 {
		m.answer = v
		return
	}
	about := m.innermost()
	about.put(f.to, v)
	m.level = about.level
}

// drive goes on till there are base frames again: what the one above these answers is the answer then.
func (m *Machine) drive(base int) api.Value {
	for {
		p := m.spin(base)
		if p == nil {
			return m.answer
		}
		t, is := p.(thrown)
		if !is || !m.unwind(base, t.value) {
			panic(p)
		}
	}
}

// spin does instructions till there are base frames again, or something is thrown: that is what it answers.
func (m *Machine) spin(base int) (out any) {
	defer func() {
		if out = recover(); out != nil && !ours(out) {
			panic(out)
		}
	}()
	for len(m.frames) > base {
		f := m.innermost()
		i := f.Code[f.at]
		m.burn(1)
		f.at++
		m.do[i.Op](f, i)
		m.behind()
	}
	return
}

// unwind goes on where what was thrown is caught by a frame above base; if none does, they are gone.
func (m *Machine) unwind(base int, v api.Value) bool {
	for len(m.frames) > base {
		f := m.innermost()
		if f.catch(v) {
			m.level = f.level
			return true
		}
		m.leave(len(m.frames) - 1)
	}
	return false
}

// catch goes on where the frame catches what the instruction that it did last has thrown.
func (f *frame) catch(v api.Value) bool {
	t, is := f.catcher(f.at - 1)
	if is {
		f.put(t.Reg, v)
		f.at = t.At
	}
	return is
}

// stuck stops the machine, unless an instruction is for what it has met.
func (f *frame) stuck(ok bool) {
	if !ok {
		f.m.halt(api.EndStuck)
	}
}

// valueOf is what a register has, if that is a value.
func valueOf(r any) (api.Value, bool) {
	if r == nil {
		return api.Value{}, true
	}
	v, is := r.(api.Value)
	return v, is
}

// boxed is a value as a register has it.
func boxed(v api.Value) any {
	if v.Kind == api.Undefined {
		return nil
	}
	return v
}

// value is a register's value.
func (f *frame) value(n int) api.Value {
	v, is := valueOf(f.regs[n])
	f.stuck(is)
	return v
}

// wanted is a register's value as it is there.
func (f *frame) wanted(n int) any {
	f.value(n)
	return f.regs[n]
}

// open is a register's value or the hole, as it is there.
func (f *frame) open(n int) any {
	if _, is := f.regs[n].(hole); !is {
		f.value(n)
	}
	return f.regs[n]
}

func (f *frame) put(n int, v api.Value) { f.regs[n] = boxed(v) }

// key is a register's value as a key.
func (f *frame) key(n int) api.Key { return f.m.key(f.value(n)) }

func (f *frame) cell(n int) *cell {
	c, is := f.regs[n].(*cell)
	f.stuck(is)
	return c
}

// arguments are those that the list in a register has.
func (f *frame) arguments(n int) []any {
	l, is := f.regs[n].(*list)
	f.stuck(is)
	return l.values
}
