package gen

import (
	"slices"

	"lintel/api"
)

// write writes the function: its parameters, its own name, its body.
func (m *maker) write() {
	if m.isScript() {
		m.body(m.node)
		return
	}
	node := m.nodes[m.node]
	m.fn.Arrow = node.Kind == api.NodeArrow
	m.fn.Name = textOf(node.Text)
	m.params(m.kids(node.Kids[0]))
	if node.Kind == api.NodeFunc {
		m.self()
	}
	if m.kind(node.Kids[1]) == api.NodeBlock {
		m.body(node.Kids[1])
		return
	}
	m.put(api.OpReturn, m.operand(node.Kids[1]))
}

// params lays the parameters: they are in the first registers when the function begins.
func (m *maker) params(kids []int) {
	for _, k := range kids {
		m.registers[m.bound[k]] = m.grab()
		if m.kind(k) == api.NodeRest {
			m.fn.Rest = true
		} else {
			m.fn.Params++
		}
	}
	for _, k := range kids {
		m.share(m.bound[k])
	}
}

// self lays a function expression's own name, if somebody uses it.
func (m *maker) self() {
	b := m.bound[m.node]
	if b < 0 || !m.used[b] {
		return
	}
	m.registers[b] = m.grab()
	m.put(api.OpCallee, m.registers[b])
	m.share(b)
}

// share puts the value of a binding that a closure takes, which is in its register, into a new cell there.
func (m *maker) share(b int) {
	if r := m.registers[b]; m.bindings[b].Taken {
		m.put(api.OpCell, r, r)
	}
}

// body writes the statements of the script or of a function's block, and its end.
func (m *maker) body(n int) {
	m.enter(m.node)
	m.all(m.kids(n))
	m.release(0) // no name is wanted any more
	to := m.grab()
	m.put(api.OpLoad, to, loadUndefined)
	m.put(api.OpReturn, to)
}

// enter makes the names of the scope that node n begins: all cells are there ahead of the functions, which may take any of them.
func (m *maker) enter(n int) {
	for _, b := range m.own[n] {
		m.lay(b)
	}
	for _, b := range m.own[n] {
		if m.bindings[b].Kind == api.BindFun {
			m.settle(b, func(to int) { m.closure(m.bindings[b].Node, to) })
		}
	}
}

// lay makes a name that its declaration has not come to.
func (m *maker) lay(b int) {
	to := m.grab()
	m.registers[b] = to
	switch {
	case m.asked[b]:
		m.put(api.OpLoad, to, loadHole)
	case m.bindings[b].Taken:
		m.put(api.OpLoad, to, loadUndefined)
	}
	m.share(b)
}

// settle gives a name its first value, by code that puts it into a register. Where the name is asked for, its own register keeps
// what tells that it isn't there till the value is.
func (m *maker) settle(b int, value func(to int)) {
	r := m.registers[b]
	if !m.bindings[b].Taken && !m.asked[b] {
		value(r)
		return
	}
	defer m.release(m.next)
	to := m.grab()
	value(to)
	if m.bindings[b].Taken {
		m.put(api.OpPoke, r, to)
	} else {
		m.put(api.OpMove, r, to)
	}
}

// turn gives a loop's names that closures take new cells, with what the old ones have.
func (m *maker) turn(n int) {
	defer m.release(m.next)
	to := -1
	for _, b := range m.own[n] {
		if !m.bindings[b].Turns {
			continue
		}
		if to < 0 {
			to = m.grab()
		}
		m.put(api.OpPeek, to, m.registers[b])
		m.put(api.OpCell, m.registers[b], to)
	}
}

// closure puts a new function of node n into a register, and says what it takes.
func (m *maker) closure(n, to int) {
	number := m.numbers[n]
	for _, b := range m.takes[number] {
		c := api.Capture{N: m.registers[b]}
		if m.bindings[b].Func != m.node {
			c = api.Capture{Up: true, N: m.captured(b)}
		}
		m.fns[number].Caps = append(m.fns[number].Caps, c)
	}
	m.put(api.OpClosure, to, number)
}

// captured is the number of the capture by which this function has a binding of one about it.
func (m *maker) captured(b int) int {
	n, _ := slices.BinarySearch(m.takes[m.numbers[m.node]], b)
	return n
}

// local is the register that the value of expression n is in anyway, if there is one: that of a name without a cell.
func (m *maker) local(n int) (int, bool) {
	i := m.meant[n]
	if i < 0 || m.uses[i].Bind < 0 {
		return 0, false
	}
	b := m.uses[i].Bind
	if m.bindings[b].Func != m.node || m.bindings[b].Taken {
		return 0, false
	}
	m.ask(n, m.registers[b])
	return m.registers[b], true
}

// ask writes the question whether a name is there yet, where it must be asked, of what a register has.
func (m *maker) ask(n, register int) {
	if m.uses[m.meant[n]].Asks {
		m.put(api.OpAsk, register, m.name(m.nodes[n].Text))
	}
}

// get puts the value of the name n into a register.
func (m *maker) get(n, to int) {
	if r, ok := m.local(n); ok {
		m.put(api.OpMove, to, r)
		return
	}
	if m.uses[m.meant[n]].Bind < 0 {
		m.put(api.OpGlobal, to, m.name(m.nodes[n].Text))
		return
	}
	m.peek(n, to)
	m.ask(n, to)
}

// peek puts what the cell of the name n has into a register.
func (m *maker) peek(n, to int) {
	b := m.uses[m.meant[n]].Bind
	if m.bindings[b].Func == m.node {
		m.put(api.OpPeek, to, m.registers[b])
	} else {
		m.put(api.OpUp, to, m.captured(b))
	}
}

// set gives the name n the value in a register. Whether the name is there it asks, unless it was got before.
func (m *maker) set(n, from int, got bool) {
	b := m.uses[m.meant[n]].Bind
	if b < 0 {
		m.put(api.OpAssign, m.name(m.nodes[n].Text), from)
		return
	}
	if !got && m.uses[m.meant[n]].Asks {
		m.probe(n)
	}
	switch binding := m.bindings[b]; {
	case binding.Kind == api.BindConst || binding.Kind == api.BindSelf:
		m.put(api.OpFixed, m.name(m.nodes[n].Text))
	case binding.Func != m.node:
		m.put(api.OpUpSet, m.captured(b), from)
	case binding.Taken:
		m.put(api.OpPoke, m.registers[b], from)
	default:
		m.put(api.OpMove, m.registers[b], from)
	}
}

// probe asks whether the name n is there.
func (m *maker) probe(n int) {
	defer m.release(m.next)
	if _, ok := m.local(n); ok {
		return
	}
	to := m.grab()
	m.peek(n, to)
	m.ask(n, to)
}
