package vm

import "lintel/api"

// thrown is what a script may catch.
type thrown struct{ value api.Value }

func (m *Machine) throw(v api.Value) { panic(thrown{v}) }

// fail throws an error of a kind.
func (m *Machine) fail(kind int) { m.throw(m.newError(kind)) }

// must throws a TypeError, unless what is done may be.
func (m *Machine) must(ok bool) {
	if !ok {
		m.fail(api.TypeError)
	}
}

// hold takes the error of what was done in the heap.
func (m *Machine) hold(e api.Errno) {
	switch e {
	case api.OK:
	case api.ErrHeap:
		m.halt(api.EndLimit)
	default:
		m.fail(api.TypeError) // what nobody made has no properties
	}
}

// ours says whether p is what this package throws; all else is somebody else's fault, and is thrown on where it is met.
func ours(p any) bool {
	if _, is := p.(stopped); is {
		return true
	}
	_, is := p.(thrown)
	return is
}

// guarded does what may throw, for somebody who is to be told by false. What was thrown is pending then.
func (m *Machine) guarded(do func()) (fine bool) {
	before, pending, frames := m.level, m.pending, len(m.frames)
	defer func() {
		p := recover()
		if p != nil && !ours(p) {
			panic(p)
		}
		m.leave(frames)
		m.level, m.pending = before, pending
		if t, is := p.(thrown); is {
			m.pending = &t
		}
		fine = p == nil
	}()
	do()
	return
}

// running is as guarded, of what a machine that was stopped does not do.
func (m *Machine) running(do func()) bool {
	return m.isMade() && m.end == api.EndNormal && m.guarded(do)
}

// quietly does something; what it throws doesn't count.
func (m *Machine) quietly(do func()) {
	pending := m.pending
	m.guarded(do)
	m.pending = pending
	m.goOn()
}

// goOn stops again, if the machine was stopped while somebody else did something.
func (m *Machine) goOn() {
	if m.end != api.EndNormal {
		panic(stopped{})
	}
}

// told hands on what the library said: false: something was thrown.
func (m *Machine) told(fine bool) {
	m.goOn()
	switch {
	case fine:
	case m.pending != nil:
		panic(*m.pending)
	default:
		m.throw(api.Value{}) // nothing that the machine knows of
	}
}
