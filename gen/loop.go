package gen

import "lintel/api"

func isLoop(kind int) bool {
	switch kind {
	case api.NodeFor, api.NodeForIn, api.NodeForOf, api.NodeWhile, api.NodeDo:
		return true
	}
	return false
}

func (m *maker) while(n int) {
	kids := m.kids(n)
	l := m.openLoop()
	l.again = m.newExit()
	m.place(l.again.mark)
	m.unless(kids[0], l.out.mark)
	m.statement(kids[1])
	m.jump(l.again.mark, api.OpJump)
	m.close()
}

func (m *maker) do(n int) {
	kids := m.kids(n)
	l := m.openLoop()
	l.again = m.newExit()
	top := m.here()
	m.statement(kids[0])
	m.place(l.again.mark)
	m.jump(top, api.OpIf, m.operand(kids[1]))
	m.close()
}

func (m *maker) loop(n int) {
	kids := m.kids(n)
	m.enter(n)
	m.part(kids[0])
	m.turn(n) // closures of the first part keep the names of before the first turn
	l := m.openLoop()
	l.again = m.newExit()
	top := m.here()
	if m.kind(kids[1]) != api.NodeNone {
		m.unless(kids[1], l.out.mark)
	}
	m.statement(kids[3])
	m.place(l.again.mark)
	m.turn(n)
	m.part(kids[2])
	m.jump(top, api.OpJump)
	m.close()
}

// part writes the first or third part of a for.
func (m *maker) part(n int) {
	switch m.kind(n) {
	case api.NodeNone:
	case api.NodeLet, api.NodeConst:
		m.statement(n)
	default:
		m.effect(n)
	}
}

func (m *maker) loopIn(n int) {
	kids := m.kids(n)
	keys := m.grab()
	m.enter(n)
	m.put(api.OpKeys, keys, m.operandIn(kids[1], keys))
	l := m.openLoop()
	l.again = m.newExit()
	m.place(l.again.mark)
	to := m.each(kids[0])
	m.jump(l.out.mark, api.OpNext, to, keys)
	m.begin(kids[0], to)
	m.statement(kids[2])
	m.jump(l.again.mark, api.OpJump)
	m.close()
}

// each is the register into which each turn's key or value goes: that of the name which the loop declares, or a new one.
func (m *maker) each(n int) int {
	if m.kind(n) == api.NodeName {
		return m.grab()
	}
	return m.registers[m.bound[m.kids(n)[0]]]
}

// begin gives the name of a for in or of the key or value of a turn.
func (m *maker) begin(n, from int) {
	if m.kind(n) == api.NodeName {
		m.set(n, from, false)
		return
	}
	m.share(m.bound[m.kids(n)[0]])
}

func (m *maker) loopOf(n int) {
	kids := m.kids(n)
	iterator := m.grab()
	m.grab() // its next
	m.enter(n)
	m.put(api.OpIter, iterator, m.operandIn(kids[1], iterator))
	before, l := m.pair, m.openLoop()
	g := m.watch()
	l.again = m.newExit() // within the guard: going on closes nothing
	m.place(l.again.mark)
	to := m.each(kids[0])
	m.jump(l.out.mark, api.OpStep, to, iterator) // not within the try: what goes wrong in the iterator does not close it
	from := m.at()
	m.begin(kids[0], to)
	m.statement(kids[2])
	behind := m.at()
	m.jump(l.again.mark, api.OpJump)
	m.unwatch(g, before)
	m.closeQuietly(from, behind, iterator)
	if len(g.through) > 0 {
		m.place(g.entry)
		m.put(api.OpClose, iterator)
		m.sendOn(g)
	}
	m.close()
}

// closeQuietly closes an iterator, if a turn throws, and throws that again.
func (m *maker) closeQuietly(from, behind, iterator int) {
	if from == behind {
		return
	}
	thrown := iterator + 1 // where its next is, which is not wanted any more
	m.protect(from, behind, thrown)
	m.put(api.OpQuiet, iterator)
	m.put(api.OpThrow, thrown)
}
