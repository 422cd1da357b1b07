package gen

import (
	"lintel/api"
	"lintel/units"
)

// What Load puts into a register.
const (
	loadUndefined = 0
	loadNull      = 1
	loadTrue      = 2
	loadFalse     = 3
	loadHole      = 4 // a let or const that its declaration has not come to
)

// maker writes one function.
type maker struct {
	*plan
	fns    []api.Fn
	fn     *api.Fn
	node   int
	next   int               // the first register that is free
	consts map[api.Value]int // the constants' numbers

	labels   []string // of the loop that is written next
	landings []*landing
	exits    int    // how many have got a number
	answer   *exit  // that of return
	guard    *guard // the innermost about what is written
	pair     *pair  // that a new guard may share; nil: none
}

func newMaker(p *plan, fns []api.Fn, number int) *maker {
	return &maker{plan: p, fns: fns, fn: &fns[number], node: p.functions[number], consts: make(map[api.Value]int), exits: firstExit, answer: &exit{number: isAnswer}}
}

// isScript says whether it is the script that is written.
func (m *maker) isScript() bool { return m.fn == &m.fns[0] }

// kids is the kids of node n.
func (m *maker) kids(n int) []int { return m.nodes[n].Kids }

func (m *maker) kind(n int) int { return m.nodes[n].Kind }

// put writes an instruction.
func (m *maker) put(op int, operands ...int) {
	i := api.Ins{Op: op}
	for n, x := range operands {
		setOperand(&i, n, x)
	}
	m.fn.Code = append(m.fn.Code, i)
}

func setOperand(i *api.Ins, n, x int) {
	switch n {
	case 0:
		i.A = x
	case 1:
		i.B = x
	case 2:
		i.C = x
	default:
		i.D = x
	}
}

// at is the number of the instruction that is written next.
func (m *maker) at() int { return len(m.fn.Code) }

// mark is a place of the code that jumps go to.
type mark struct {
	at    int // -1: it has not been come to
	fills []func(at int)
}

func newMark() *mark { return &mark{at: -1} }

// here is a mark at the next instruction.
func (m *maker) here() *mark { return &mark{at: m.at()} }

// place says that a mark is at the next instruction, and fills it in where it was waited for.
func (m *maker) place(to *mark) {
	to.at = m.at()
	for _, fill := range to.fills {
		fill(to.at)
	}
	to.fills = nil
}

// jump writes an instruction whose target, behind its other operands, is a mark.
func (m *maker) jump(to *mark, op int, operands ...int) {
	n := m.at()
	m.put(op, operands...)
	fill := func(at int) { setOperand(&m.fn.Code[n], len(operands), at) }
	if to.at >= 0 {
		fill(to.at)
		return
	}
	to.fills = append(to.fills, fill)
}

// protect says that what the instructions from from up to to throw goes on here, in a register.
func (m *maker) protect(from, to, register int) {
	if from < to {
		m.fn.Tries = append(m.fn.Tries, api.Try{From: from, To: to, At: m.at(), Reg: register})
	}
}

// grab is a new register.
func (m *maker) grab() int {
	hold(m.next < api.MaxRegs)
	m.next++
	m.fn.Regs = max(m.fn.Regs, m.next)
	return m.next - 1
}

// release gives back the registers from that one on.
func (m *maker) release(from int) { m.next = from }

// constant is the number of a constant, whose text nobody else has.
func (m *maker) constant(v api.Value) int {
	if k, ok := m.consts[v]; ok {
		return k
	}
	m.consts[v] = len(m.fn.Consts)
	m.fn.Consts = append(m.fn.Consts, v)
	return len(m.fn.Consts) - 1
}

// text is the number of a constant that is a text.
func (m *maker) text(s api.Str) int { return m.constant(api.Value{Kind: api.Text, Str: s}) }

// name is the number of a constant that is a name as a text.
func (m *maker) name(s string) int { return m.text(textOf(s)) }

// number puts a number into a register.
func (m *maker) number(to int, x float64) {
	m.put(api.OpConst, to, m.constant(api.Value{Kind: api.Number, Num: x}))
}

// ownText is a text in memory of its own, without the odd byte that does not count.
func ownText(s api.Str) api.Str { return units.Cut(s, 0, units.Len(s)) }

// textOf is a name as a text.
func textOf(name string) api.Str {
	s, _, _ := units.Of(name)
	return s
}
