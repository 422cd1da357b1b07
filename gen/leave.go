package gen

import (
	"slices"

	"lintel/api"
)

// What the kind of a pair says about how a part was left. From firstExit on it is an exit's number.
const (
	isNormal  = 0
	isThrown  = 1
	isAnswer  = 2
	firstExit = 3
)

// exit is where a break, continue or return goes.
type exit struct {
	number int
	mark   *mark  // nil: it is return's
	within *guard // the innermost about the mark; nil: none
}

// landing is a statement that break or continue may mean.
type landing struct {
	labels []string
	plain  bool  // it is meant without a label, too
	out    *exit // break's
	again  *exit // continue's; nil: it is no loop
}

// pair is two registers that tell how a part was left: a number, and what was thrown or is answered.
type pair struct{ kind, value int }

// guard is what must be done on the way out of a part of a function: a finally, an iterator that is closed. Each break, continue and
// return that leaves the part goes to one entry, with its exit's number in the pair. From there it goes on to the exit, or, if that is
// beyond another guard, to that one's entry: so nothing is written twice, however many leave, and however deep.
type guard struct {
	*pair
	entry   *mark
	outer   *guard
	through []*exit
}

// newExit is an exit, to be placed, of what is written now.
func (m *maker) newExit() *exit {
	e := &exit{number: m.exits, mark: newMark(), within: m.guard}
	m.exits++
	return e
}

// open begins a landing, whose exit is behind it.
func (m *maker) open(labels []string, plain bool) *landing {
	l := &landing{labels: labels, plain: plain, out: m.newExit()}
	m.landings = append(m.landings, l)
	return l
}

// openLoop begins the landing of a loop, with the labels that stand ahead of it.
func (m *maker) openLoop() *landing {
	l := m.open(m.labels, true)
	m.labels = nil
	return l
}

// close ends the innermost landing: what comes behind it is here.
func (m *maker) close() {
	last := len(m.landings) - 1
	m.place(m.landings[last].out.mark)
	m.landings = m.landings[:last]
}

// label writes a statement with its labels: all those that stand right ahead of it.
func (m *maker) label(n int) {
	var labels []string
	for ; m.kind(n) == api.NodeLabel; n = m.kids(n)[0] {
		labels = append(labels, m.nodes[n].Text)
	}
	if isLoop(m.kind(n)) {
		m.labels = labels
		m.statement(n)
		return
	}
	m.open(labels, false)
	m.statement(n)
	m.close()
}

func (m *maker) breaks(n int) {
	label := m.nodes[n].Text
	l := m.find(func(l *landing) bool { return l.plain && label == "" || slices.Contains(l.labels, label) })
	m.leave(l.out)
}

func (m *maker) continues(n int) {
	label := m.nodes[n].Text
	l := m.find(func(l *landing) bool { return l.again != nil && (label == "" || slices.Contains(l.labels, label)) })
	m.leave(l.again)
}

// find is the innermost landing that is meant; there is one.
func (m *maker) find(meant func(*landing) bool) *landing {
	n := len(m.landings) - 1
	for !meant(m.landings[n]) {
		n--
	}
	return m.landings[n]
}

func (m *maker) returns(n int) {
	value := m.answered(m.kids(n))
	if m.guard == nil {
		m.put(api.OpReturn, value)
		return
	}
	// Put there when it is whole: if something is thrown on the way to it, a finally that is under way may still want what is in the pair.
	m.put(api.OpMove, m.guard.value, value)
	m.leave(m.answer)
}

// answered is a register that has what a return with these kids answers.
func (m *maker) answered(kids []int) int {
	if len(kids) > 0 {
		return m.operand(kids[0])
	}
	to := m.grab()
	m.put(api.OpLoad, to, loadUndefined)
	return to
}

// leave goes to an exit, by way of the guards between.
func (m *maker) leave(e *exit) {
	if e.within == m.guard {
		m.jump(e.mark, api.OpJump)
		return
	}
	m.number(m.guard.kind, float64(e.number))
	m.guard.pass(e)
	m.jump(m.guard.entry, api.OpJump)
}

// pass notes that an exit is gone to by way of g.
func (g *guard) pass(e *exit) {
	if !slices.Contains(g.through, e) {
		g.through = append(g.through, e)
	}
}

// watch begins a part with a new guard. It shares the pair of the guard about it, unless that one's finally is what it stands in: there the
// pair still tells what is under way.
func (m *maker) watch() *guard {
	if m.pair == nil {
		m.pair = &pair{kind: m.grab(), value: m.grab()}
		m.put(api.OpLoad, m.pair.value, loadUndefined) // it may be moved though nothing was put there
	}
	m.guard = &guard{pair: m.pair, entry: newMark(), outer: m.guard}
	return m.guard
}

// unwatch ends the part that g guards; from here on new guards may share a pair, or none.
func (m *maker) unwatch(g *guard, p *pair) { m.guard, m.pair = g.outer, p }

// sendOn goes on to where those that came by way of g go.
func (m *maker) sendOn(g *guard) {
	answers, beyond := false, false // not both: where a return ends there is no guard beyond
	for _, e := range g.through {
		switch {
		case e.within != g.outer:
			g.outer.pass(e)
			beyond = true
		case e == m.answer:
			answers = true
		default:
			m.jump(e.mark, api.OpSame, g.kind, e.number)
		}
	}
	switch {
	case answers:
		m.put(api.OpReturn, g.value)
	case beyond:
		m.sendBeyond(g)
	}
}

// sendBeyond goes on to the guard about g.
func (m *maker) sendBeyond(g *guard) {
	if g.pair != g.outer.pair {
		m.put(api.OpMove, g.outer.kind, g.kind)
		m.put(api.OpMove, g.outer.value, g.value)
	}
	m.jump(g.outer.entry, api.OpJump)
}

// try writes a try: with a finally it has a guard.
func (m *maker) try(n int) {
	last := m.kids(n)[2]
	if m.kind(last) == api.NodeNone {
		m.caught(n)
		return
	}
	before := m.pair
	g := m.watch()
	from := m.at()
	m.caught(n)
	behind := m.at()
	m.unwatch(g, nil) // the pair is wanted till the finally is done
	m.number(g.kind, isNormal)
	m.jump(g.entry, api.OpJump)
	m.protect(from, behind, g.value)
	m.number(g.kind, isThrown)
	m.place(g.entry)
	m.statement(last)
	m.resume(g)
	m.pair = before
}

// caught writes the block of a try, and its catch, if it has one.
func (m *maker) caught(n int) {
	kids := m.kids(n)
	from := m.at()
	m.statement(kids[0])
	behind := m.at()
	if m.kind(kids[1]) == api.NodeNone {
		return
	}
	end, b := newMark(), m.bound[n]
	m.jump(end, api.OpJump)
	m.registers[b] = m.grab()
	m.protect(from, behind, m.registers[b])
	m.share(b)
	m.statement(kids[1])
	m.place(end)
}

// resume goes on behind a finally with what was under way.
func (m *maker) resume(g *guard) {
	end, thrown := newMark(), newMark()
	m.jump(end, api.OpSame, g.kind, isNormal)
	if len(g.through) > 0 {
		m.jump(thrown, api.OpSame, g.kind, isThrown)
		m.sendOn(g)
	}
	m.place(thrown)
	m.put(api.OpThrow, g.value)
	m.place(end)
}
