package parse_test

import "lintel/api"

func (m *maker) statements(left, most int) []made {
	return m.many(0, most, "", func() made { return m.statement(left) })
}

func (m *maker) block(left int) made {
	at := m.tok("{")
	kids := m.statements(left-1, 2)
	m.tok("}")
	return node(api.NodeBlock, at, "", kids...)
}

func (m *maker) statement(left int) made {
	switch m.Intn(6) {
	case 0:
		n := m.declaration(left, true)
		m.ends = 1
		return n
	case 1:
		at, text := m.tok("function"), m.name()
		m.tok(text)
		return node(api.NodeFun, at, text, m.params(), m.block(left))
	}
	return m.body(left, true)
}

func (m *maker) declaration(left int, in bool) made {
	kind, at := m.declarer()
	return node(kind, at, "", m.many(1, 2, ",", func() made {
		text := m.name()
		at := m.tok(text)
		if m.one(3) {
			return node(api.NodeInit, at, text)
		}
		m.tok("=")
		return node(api.NodeInit, at, text, m.assign(left-1, in))
	})...)
}

func (m *maker) declarer() (kind, at int) {
	if m.one(2) {
		return api.NodeLet, m.tok("let")
	}
	return api.NodeConst, m.tok("const")
}

func (m *maker) condition(left int) made {
	m.tok("(")
	e := m.expr(left, true)
	m.tok(")")
	return e
}

// body writes one; open: it may end with an if without an else.
func (m *maker) body(left int, open bool) made {
	most := 9
	if left > 0 {
		most = 19
	}
	left--
	switch k := m.Intn(most); k {
	case 0:
		return node(api.NodeEmpty, m.tok(";"), "")
	case 1, 2:
		return m.leave(k)
	case 3:
		return m.answer(left)
	case 4:
		at := m.tok("throw")
		m.line = true
		e := m.expr(left, true)
		m.ends = 1
		return node(api.NodeThrow, at, "", e)
	case 9, 10:
		return m.choice(left, open)
	case 11:
		return node(api.NodeWhile, m.tok("while"), "", m.condition(left), m.body(left, open))
	case 12:
		at, body := m.tok("do"), m.body(left, true)
		m.tok("while")
		e := m.condition(left)
		m.ends = 2
		return node(api.NodeDo, at, "", body, e)
	case 13:
		return m.counted(left, open)
	case 14:
		return m.each(left, open)
	case 15:
		return m.attempt(left)
	case 16:
		return m.cases(left)
	case 17:
		text := m.name()
		at := m.toks(text, ":")
		return node(api.NodeLabel, at, text, m.body(left, open))
	case 18:
		return m.block(left)
	}
	m.front = 2
	e := m.expr(left, true)
	m.ends = 1
	return node(api.NodeExpr, e.at, "", e)
}

// leave writes a break or a continue.
func (m *maker) leave(k int) made {
	word, kind, text := "break", api.NodeBreak, ""
	if k == 1 {
		word, kind = "continue", api.NodeContinue
	}
	at := m.tok(word)
	if m.one(2) {
		text, m.line = m.name(), true
		m.tok(text)
	}
	m.ends = 1
	return node(kind, at, text)
}

func (m *maker) answer(left int) made {
	at := m.tok("return")
	var kids []made
	if m.one(2) {
		m.line = true
		kids = append(kids, m.expr(left, true))
	}
	m.ends = 1
	return node(api.NodeReturn, at, "", kids...)
}

func (m *maker) choice(left int, open bool) made {
	at := m.tok("if")
	kids := []made{m.condition(left)}
	if open && m.one(2) {
		return node(api.NodeIf, at, "", append(kids, m.body(left, true))...)
	}
	kids = append(kids, m.body(left, false))
	m.tok("else")
	return node(api.NodeIf, at, "", append(kids, m.body(left, open))...)
}

func (m *maker) perhaps(left int, in bool, sign string) made {
	n := node(api.NodeNone, 0, "")
	if m.one(2) {
		n = m.expr(left, in)
	}
	m.tok(sign)
	return n
}

func (m *maker) counted(left int, open bool) made {
	at := m.toks("for", "(")
	var first made
	if m.one(2) {
		first = m.declaration(left, false)
		m.tok(";")
	} else {
		first = m.perhaps(left, false, ";")
	}
	return node(api.NodeFor, at, "", first, m.perhaps(left, true, ";"), m.perhaps(left, true, ")"), m.body(left, open))
}

func (m *maker) each(left int, open bool) made {
	at := m.toks("for", "(")
	var first, over made
	if m.one(2) {
		kind, at := m.declarer()
		first = node(kind, at, "", m.named(api.NodeInit))
	} else {
		first = m.named(api.NodeName)
	}
	kind := api.NodeForIn
	if m.one(2) {
		m.tok("in")
		over = m.expr(left, true)
	} else {
		kind = api.NodeForOf
		m.tok("of")
		over = m.assign(left, true)
	}
	m.tok(")")
	return node(kind, at, "", first, over, m.body(left, open))
}

func (m *maker) attempt(left int) made {
	at, text, how := m.tok("try"), "", m.Intn(3)
	block, caught, finally := m.block(left), node(api.NodeNone, 0, ""), node(api.NodeNone, 0, "")
	if how > 0 {
		text = m.name()
		m.toks("catch", "(", text, ")")
		caught = m.block(left)
	}
	if how < 2 {
		m.tok("finally")
		finally = m.block(left)
	}
	return node(api.NodeTry, at, text, block, caught, finally)
}

func (m *maker) cases(left int) made {
	at := m.tok("switch")
	kids := []made{m.condition(left)}
	m.tok("{")
	count := m.Intn(4)
	other := m.Intn(8)
	for i := range count {
		if i == other {
			at := m.toks("default", ":")
			kids = append(kids, node(api.NodeDefault, at, "", m.statements(left, 2)...))
			continue
		}
		at := m.tok("case")
		some := []made{m.expr(left, true)}
		m.tok(":")
		kids = append(kids, node(api.NodeCase, at, "", append(some, m.statements(left, 2)...)...))
	}
	m.tok("}")
	return node(api.NodeSwitch, at, "", kids...)
}
