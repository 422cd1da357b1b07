package gen

import "lintel/api"

// statements says by a statement's kind how it is written.
func statements() map[int]func(*maker, int) {
	return map[int]func(*maker, int){
		api.NodeBlock:    (*maker).block,
		api.NodeLet:      (*maker).declaration,
		api.NodeConst:    (*maker).declaration,
		api.NodeEmpty:    (*maker).nothing,
		api.NodeFun:      (*maker).nothing, // it is there since its scope was entered
		api.NodeExpr:     (*maker).expression,
		api.NodeIf:       (*maker).condition,
		api.NodeFor:      (*maker).loop,
		api.NodeForIn:    (*maker).loopIn,
		api.NodeForOf:    (*maker).loopOf,
		api.NodeWhile:    (*maker).while,
		api.NodeDo:       (*maker).do,
		api.NodeBreak:    (*maker).breaks,
		api.NodeContinue: (*maker).continues,
		api.NodeReturn:   (*maker).returns,
		api.NodeThrow:    (*maker).throw,
		api.NodeTry:      (*maker).try,
		api.NodeSwitch:   (*maker).cases,
		api.NodeLabel:    (*maker).label,
	}
}

// statement writes a statement; the registers that it takes are free again behind it.
func (m *maker) statement(n int) {
	defer m.release(m.next)
	m.statements[m.kind(n)](m, n)
}

// all writes statements one by one.
func (m *maker) all(l []int) {
	for _, n := range l {
		m.statement(n)
	}
}

func (m *maker) nothing(int) {}

func (m *maker) block(n int) {
	m.enter(n)
	m.all(m.kids(n))
}

func (m *maker) declaration(n int) {
	for _, k := range m.kids(n) {
		m.settle(m.bound[k], func(to int) { m.initial(k, to) })
	}
}

// initial puts the first value of what a NodeInit declares into a register.
func (m *maker) initial(n, to int) {
	if kids := m.kids(n); len(kids) > 0 {
		m.value(kids[0], to)
		return
	}
	m.put(api.OpLoad, to, loadUndefined)
}

func (m *maker) expression(n int) {
	value := m.operand(m.kids(n)[0])
	if m.isScript() {
		m.put(api.OpDone, value)
	}
}

func (m *maker) condition(n int) {
	kids, other := m.kids(n), newMark()
	m.unless(kids[0], other)
	m.statement(kids[1])
	if len(kids) == 2 {
		m.place(other)
		return
	}
	end := newMark()
	m.jump(end, api.OpJump)
	m.place(other)
	m.statement(kids[2])
	m.place(end)
}

func (m *maker) throw(n int) { m.put(api.OpThrow, m.operand(m.kids(n)[0])) }

// cases is a switch: all of its clauses are one scope, in which what it is about does not stand.
func (m *maker) cases(n int) {
	kids := m.kids(n)
	value := m.grab()
	m.value(kids[0], value)
	m.enter(n)
	marks, other := make([]*mark, len(kids)), m.open(nil, true).out.mark
	for i := 1; i < len(kids); i++ {
		marks[i] = newMark()
		if m.kind(kids[i]) == api.NodeDefault {
			other = marks[i]
			continue
		}
		m.match(value, m.kids(kids[i])[0], marks[i])
	}
	m.jump(other, api.OpJump)
	for i := 1; i < len(kids); i++ {
		m.place(marks[i])
		m.all(m.clause(kids[i]))
	}
	m.close()
}

// match goes on at a mark, if a register has the value of expression n.
func (m *maker) match(value, n int, to *mark) {
	defer m.release(m.next)
	is := m.grab()
	m.put(m.operators["==="], is, value, m.operandIn(n, is))
	m.jump(to, api.OpIf, is)
}

// clause is the statements of a NodeCase or NodeDefault.
func (m *maker) clause(n int) []int {
	if m.kind(n) == api.NodeCase {
		return m.kids(n)[1:]
	}
	return m.kids(n)
}
