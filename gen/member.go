package gen

import (
	"lintel/api"
	"lintel/digits"
)

// target is what can be got and set: a name, or a property of an object.
type target struct {
	name        int // the NodeName; -1: a property
	object, key int // a property's registers
}

// reference does what stands ahead of getting and setting n; what is done between that and these may change names.
func (m *maker) reference(n int, changed bool) target {
	if m.kind(n) == api.NodeName {
		return target{name: n}
	}
	return m.referenceIn(n, m.grab(), changed)
}

// referenceIn is as reference, of a property, with a register for the object.
func (m *maker) referenceIn(n, to int, changed bool) target {
	kids := m.kids(n)
	if m.kind(n) == api.NodeDot {
		t := target{name: -1, object: m.heldIn(kids[0], to, changed), key: m.grab()}
		m.put(api.OpConst, t.key, m.name(m.nodes[n].Text))
		return t
	}
	object := m.heldIn(kids[0], to, changed || m.changes[kids[1]])
	return target{name: -1, object: object, key: m.key(kids[1])}
}

// key is a register that has the value of node n as a key.
func (m *maker) key(n int) int {
	if m.kind(n) == api.NodeComputed {
		n = m.kids(n)[0]
	}
	to := m.grab()
	switch node := m.nodes[n]; node.Kind {
	case api.NodeStr:
		m.literalText(n, to)
	case api.NodeNum:
		m.put(api.OpConst, to, m.text(digits.Show(node.Num)))
	default:
		m.put(api.OpKey, to, m.operandIn(n, to))
	}
	return to
}

// got is a register that has the value of a target: to, or a name's own one, if that is not changed till it is wanted.
func (m *maker) got(t target, to int, changed bool) int {
	if t.name >= 0 {
		return m.heldIn(t.name, to, changed)
	}
	m.put(api.OpGet, to, t.object, t.key)
	return to
}

// give sets a target, which was got before or not.
func (m *maker) give(t target, from int, got bool) {
	if t.name >= 0 {
		m.set(t.name, from, got)
		return
	}
	m.put(api.OpSet, t.object, t.key, from)
}

func (m *maker) property(n, to int) { m.got(m.referenceIn(n, to, false), to, false) }

func (m *maker) assign(n, to int) {
	node := m.nodes[n]
	value, changed := node.Kids[1], m.changes[node.Kids[1]]
	t := m.reference(node.Kids[0], changed)
	if node.Text == "=" {
		m.value(value, to)
		m.give(t, to, false)
		return
	}
	was := m.got(t, to, changed)
	by := m.operand(value)
	m.put(m.operators[node.Text[:len(node.Text)-1]], to, was, by)
	m.give(t, to, true)
}

// step is ++ and --: its value is the new number, or, of the postfix ones, the old one.
func (m *maker) step(n, to int) {
	node := m.nodes[n]
	t := m.reference(node.Kids[0], false)
	m.put(api.OpPlus, to, m.got(t, to, false))
	by := m.grab()
	m.number(by, 1)
	fresh := to
	if node.Kind == api.NodePost {
		fresh = by
	}
	m.put(m.operators[node.Text[:1]], fresh, to, by)
	m.give(t, fresh, true)
}

// remove is delete: of what is no property it just does it.
func (m *maker) remove(n, to int) {
	switch m.kind(n) {
	case api.NodeDot, api.NodeIndex:
		t := m.referenceIn(n, to, false)
		m.put(api.OpDelete, to, t.object, t.key)
	default:
		m.effect(n)
		m.put(api.OpLoad, to, loadTrue)
	}
}

func (m *maker) array(n, to int) {
	m.put(api.OpArray, to)
	m.push(to, m.kids(n))
}

// push puts values, and what spreads tell, behind the array or list in a register.
func (m *maker) push(list int, kids []int) {
	for _, k := range kids {
		m.pushOne(list, k)
	}
}

func (m *maker) pushOne(list, n int) {
	defer m.release(m.next)
	op := api.OpPush
	if m.kind(n) == api.NodeSpread {
		op, n = api.OpSpread, m.kids(n)[0]
	}
	m.put(op, list, m.operand(n))
}

func (m *maker) object(n, to int) {
	m.put(api.OpObject, to)
	for _, k := range m.kids(n) {
		m.member(k, to)
	}
}

// member lays a property, getter or setter of an object literal.
func (m *maker) member(n, object int) {
	defer m.release(m.next)
	op := api.OpPut
	switch m.kind(n) {
	case api.NodeGetter:
		op = api.OpGetter
	case api.NodeSetter:
		op = api.OpSetter
	}
	key := m.key(m.kids(n)[0])
	m.put(op, object, key, m.operand(m.kids(n)[1]))
}

func (m *maker) call(n, to int) {
	kids := m.kids(n)
	f, this := m.callee(kids[0], to, m.change(kids[1:]))
	m.put(api.OpCall, to, f, this, m.arguments(kids[1:]))
}

// callee is the registers of the function that is called, and of this; one of them may be to.
func (m *maker) callee(n, to int, changed bool) (f, this int) {
	switch m.kind(n) {
	case api.NodeDot, api.NodeIndex:
		t := m.referenceIn(n, to, changed)
		return m.got(t, t.key, changed), t.object // the key is not wanted any more
	}
	f, this = m.heldIn(n, to, changed), m.grab()
	m.put(api.OpLoad, this, loadUndefined)
	return f, this
}

// arguments is the register of the list of a call's arguments.
func (m *maker) arguments(kids []int) int {
	list := m.grab()
	m.put(api.OpList, list)
	m.push(list, kids)
	return list
}

func (m *maker) build(n, to int) {
	kids := m.kids(n)
	f := m.heldIn(kids[0], to, m.change(kids[1:]))
	m.put(api.OpNew, to, f, m.arguments(kids[1:]))
}
