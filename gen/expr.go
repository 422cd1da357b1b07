package gen

import (
	"slices"

	"lintel/api"
)

// expressions says by an expression's kind how its value is put into a register.
func expressions() map[int]func(*maker, int, int) {
	return map[int]func(*maker, int, int){
		api.NodeNum:      (*maker).literalNumber,
		api.NodeStr:      (*maker).literalText,
		api.NodeTrue:     (*maker).literalWord,
		api.NodeFalse:    (*maker).literalWord,
		api.NodeNull:     (*maker).literalWord,
		api.NodeName:     (*maker).get,
		api.NodeThis:     (*maker).this,
		api.NodeArray:    (*maker).array,
		api.NodeObject:   (*maker).object,
		api.NodeFunc:     (*maker).closure,
		api.NodeArrow:    (*maker).closure,
		api.NodeCall:     (*maker).call,
		api.NodeNew:      (*maker).build,
		api.NodeDot:      (*maker).property,
		api.NodeIndex:    (*maker).property,
		api.NodeUnary:    (*maker).unary,
		api.NodePre:      (*maker).step,
		api.NodePost:     (*maker).step,
		api.NodeBinary:   (*maker).binary,
		api.NodeAnd:      (*maker).either,
		api.NodeOr:       (*maker).either,
		api.NodeCond:     (*maker).choice,
		api.NodeAssign:   (*maker).assign,
		api.NodeSeq:      (*maker).sequence,
		api.NodeTemplate: (*maker).template,
	}
}

// value puts the value of expression n into a register, which may be written on the way, too: nobody else reads it till then.
func (m *maker) value(n, to int) {
	defer m.release(m.next)
	m.expressions[m.kind(n)](m, n, to)
}

// operand is a register that has the value of expression n, for now: a name's own one, or a new one.
func (m *maker) operand(n int) int {
	if r, ok := m.local(n); ok {
		return r
	}
	to := m.grab()
	m.value(n, to)
	return to
}

// operandIn is as operand, with the register to in place of a new one.
func (m *maker) operandIn(n, to int) int { return m.heldIn(n, to, false) }

// heldIn is as operandIn, for a value that is wanted when other expressions are done, too: if these change names, a name's own register
// won't do.
func (m *maker) heldIn(n, to int, changed bool) int {
	if !changed {
		if r, ok := m.local(n); ok {
			return r
		}
	}
	m.value(n, to)
	return to
}

// change says whether one of these expressions changes a name.
func (m *maker) change(l []int) bool {
	return slices.ContainsFunc(l, func(n int) bool { return m.changes[n] })
}

// effect does expression n, whose value nobody wants.
func (m *maker) effect(n int) {
	defer m.release(m.next)
	m.operand(n)
}

func (m *maker) literalNumber(n, to int) { m.number(to, m.nodes[n].Num) }

func (m *maker) literalText(n, to int) {
	m.put(api.OpConst, to, m.text(ownText(m.nodes[n].Str)))
}

func (m *maker) literalWord(n, to int) {
	what := loadNull
	switch m.kind(n) {
	case api.NodeTrue:
		what = loadTrue
	case api.NodeFalse:
		what = loadFalse
	}
	m.put(api.OpLoad, to, what)
}

func (m *maker) this(_, to int) { m.put(api.OpThis, to) }

func (m *maker) unary(n, to int) {
	of := m.kids(n)[0]
	switch sign := m.nodes[n].Text; sign {
	case "void":
		m.effect(of)
		m.put(api.OpLoad, to, loadUndefined)
	case "delete":
		m.remove(of, to)
	case "typeof":
		m.typeOf(of, to)
	default:
		m.put(unaries(sign), to, m.operandIn(of, to))
	}
}

// unaries is the instruction of an operator that just makes one value of another.
func unaries(sign string) int {
	switch sign {
	case "+":
		return api.OpPlus
	case "-":
		return api.OpMinus
	case "~":
		return api.OpFlip
	}
	return api.OpBang
}

// typeOf puts the type of expression n into a register: that of a global that isn't there, too.
func (m *maker) typeOf(n, to int) {
	if i := m.meant[n]; i >= 0 && m.uses[i].Bind < 0 {
		m.put(api.OpTry, to, m.name(m.nodes[n].Text))
		m.put(api.OpType, to, to)
		return
	}
	m.put(api.OpType, to, m.operandIn(n, to))
}

func (m *maker) binary(n, to int) {
	left, right := m.kids(n)[0], m.kids(n)[1]
	a := m.heldIn(left, to, m.changes[right])
	b := m.operand(right)
	m.put(m.operators[m.nodes[n].Text], to, a, b)
}

// either is && and ||: the left side's value, or, if that does not settle it, the right side's.
func (m *maker) either(n, to int) {
	end, op := newMark(), api.OpNot
	if m.kind(n) == api.NodeOr {
		op = api.OpIf
	}
	m.value(m.kids(n)[0], to)
	m.jump(end, op, to)
	m.value(m.kids(n)[1], to)
	m.place(end)
}

func (m *maker) choice(n, to int) {
	kids, other, end := m.kids(n), newMark(), newMark()
	m.unless(kids[0], other)
	m.value(kids[1], to)
	m.jump(end, api.OpJump)
	m.place(other)
	m.value(kids[2], to)
	m.place(end)
}

// unless goes on at a mark, if expression n is not truthy.
func (m *maker) unless(n int, to *mark) {
	defer m.release(m.next)
	m.jump(to, api.OpNot, m.operand(n))
}

func (m *maker) sequence(n, to int) {
	kids := m.kids(n)
	last := len(kids) - 1
	for _, k := range kids[:last] {
		m.effect(k)
	}
	m.value(kids[last], to)
}

// template makes each value a text when its turn comes, and puts them together when all are done: a text that is too long
// stops nothing ahead of that.
func (m *maker) template(n, to int) {
	kids := m.kids(n)
	var values []int
	for i := 1; i < len(kids); i += 2 {
		text := m.grab()
		m.put(api.OpText, text, m.operandIn(kids[i], text))
		values = append(values, text)
	}
	m.literalText(kids[0], to)
	piece := m.grab()
	for i, value := range values {
		m.put(m.operators["+"], to, to, value)
		if text := kids[2*i+2]; len(m.nodes[text].Str) > 1 {
			m.literalText(text, piece)
			m.put(m.operators["+"], to, to, piece)
		}
	}
}
