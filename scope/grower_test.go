package scope_test

import (
	"math/rand"
	"slices"
	"strconv"
	"testing"

	"lintel/api"
	"lintel/early"
	"lintel/tree"
)

// grower grows trees as they come, that break no rule, with few names.
type grower struct {
	*rand.Rand
	l []api.Node
}

// grown is many trees: small ones and some greater ones.
func grown(t *testing.T, seed int64, count int, hold func(g *grower, l []api.Node)) {
	t.Helper()
	g := &grower{Rand: rand.New(rand.NewSource(seed))}
	for i := range count {
		l := g.script(1 + i%5)
		if len(l) > 300 {
			continue
		}
		if at, e := early.Check(l); e != api.OK {
			t.Fatalf("%v: %d, error %d", l, at, e)
		}
		hold(g, l)
	}
}

func (g *grower) script(left int) []api.Node {
	g.l = nil
	g.add(api.NodeScript, "", g.statements(left, 5)...)
	return g.shuffled(g.mended(g.l))
}

func (g *grower) add(kind int, text string, kids ...int) int {
	g.l = append(g.l, api.Node{Kind: kind, Text: text, Kids: kids, At: g.Intn(1000)})
	return len(g.l) - 1
}

// mended is a tree in which whatever breaks a rule is something else.
func (g *grower) mended(l []api.Node) []api.Node {
	for fresh := 0; ; {
		ups, done := tree.Ups(l), true
		for rule, n := range early.All(l) {
			done = false
			switch rule {
			case 1, 5:
				l[n].Text = g.pick("a", "b", "c", "d", "e"+strconv.Itoa(fresh))
				fresh++
			case 2:
				l[ups[n]].Kind = api.NodeLet
			case 3, 4:
				l[n].Kind, l[n].Text = api.NodeEmpty, ""
			case 6:
				l[n].Kind = api.NodeThrow
			case 9:
				l[n].Text = "typeof"
			}
		}
		if done {
			return l
		}
	}
}

// shuffled is a tree whose nodes stand in any order that lets kids stand ahead.
func (g *grower) shuffled(l []api.Node) []api.Node {
	ups, owed, numbers := tree.Ups(l), make([]int, len(l)), make([]int, len(l))
	var ready []int
	for n := range l {
		if owed[n] = len(l[n].Kids); owed[n] == 0 {
			ready = append(ready, n)
		}
	}
	var out []api.Node
	for len(ready) > 0 {
		i := g.Intn(len(ready))
		n := ready[i]
		ready = slices.Delete(ready, i, i+1)
		numbers[n] = len(out)
		node := l[n]
		node.Kids = nil
		for _, k := range l[n].Kids {
			node.Kids = append(node.Kids, numbers[k])
		}
		out = append(out, node)
		if up := ups[n]; up >= 0 {
			if owed[up]--; owed[up] == 0 {
				ready = append(ready, up)
			}
		}
	}
	return out
}

func (g *grower) pick(some ...string) string { return some[g.Intn(len(some))] }

func (g *grower) one(count int) bool { return g.Intn(count) == 0 }

func (g *grower) name() string { return g.pick("a", "b", "c", "d", "f", "g") }

func (g *grower) many(most int, one func() int) []int {
	var out []int
	for range g.Intn(most + 1) {
		out = append(out, one())
	}
	return out
}

func (g *grower) statements(left, most int) []int {
	return g.many(most, func() int { return g.statement(left) })
}

func (g *grower) block(left int) int {
	return g.add(api.NodeBlock, "", g.statements(left-1, 4)...)
}

func (g *grower) none() int { return g.add(api.NodeNone, "") }

func (g *grower) statement(left int) int {
	switch g.Intn(6) {
	case 0, 1:
		return g.declaration(left, 3)
	case 2:
		return g.add(api.NodeFun, g.name(), g.params(), g.block(left))
	}
	return g.body(left)
}

// declaration is a let or const of up to so many names.
func (g *grower) declaration(left, most int) int {
	kids := []int{g.initial(left)}
	for len(kids) < most && g.one(2) {
		kids = append(kids, g.initial(left))
	}
	return g.add(api.NodeLet+g.Intn(2), "", kids...)
}

func (g *grower) initial(left int) int {
	if g.one(3) {
		return g.add(api.NodeInit, g.name())
	}
	return g.add(api.NodeInit, g.name(), g.expr(left-1))
}

func (g *grower) params() int {
	kids := g.many(2, func() int { return g.add(api.NodeName, g.name()) })
	if g.one(3) {
		kids = append(kids, g.add(api.NodeRest, g.name()))
	}
	return g.add(api.NodeParams, "", kids...)
}

func (g *grower) body(left int) int {
	if left <= 0 {
		return g.small()
	}
	left--
	switch g.Intn(12) {
	case 0:
		return g.add(api.NodeIf, "", g.expr(left), g.body(left), g.body(left))
	case 1:
		return g.add(api.NodeWhile, "", g.expr(left), g.body(left))
	case 2:
		return g.add(api.NodeDo, "", g.body(left), g.expr(left))
	case 3, 4:
		return g.add(api.NodeFor, "", g.beginning(left), g.perhaps(left), g.perhaps(left), g.body(left))
	case 5:
		return g.add(api.NodeForIn+g.Intn(2), "", g.each(), g.expr(left), g.body(left))
	case 6:
		return g.add(api.NodeLabel, g.name(), g.body(left))
	case 7:
		return g.attempt(left)
	case 8:
		return g.choices(left)
	case 9, 10:
		return g.block(left)
	}
	return g.small()
}

// small is a statement without others in it.
func (g *grower) small() int {
	switch g.Intn(8) {
	case 0:
		return g.add(api.NodeBreak, g.pick("", g.name()))
	case 1:
		return g.add(api.NodeContinue, g.pick("", g.name()))
	case 2:
		return g.add(api.NodeReturn, "", g.expr(1))
	}
	return g.add(api.NodeExpr, "", g.expr(1))
}

func (g *grower) beginning(left int) int {
	if g.one(4) {
		return g.perhaps(left)
	}
	return g.declaration(left, 3)
}

func (g *grower) perhaps(left int) int {
	if g.one(2) {
		return g.none()
	}
	return g.expr(left)
}

func (g *grower) each() int {
	if g.one(3) {
		return g.add(api.NodeName, g.name())
	}
	return g.add(api.NodeLet+g.Intn(2), "", g.add(api.NodeInit, g.name()))
}

func (g *grower) attempt(left int) int {
	switch g.Intn(3) {
	case 0:
		return g.add(api.NodeTry, "", g.block(left), g.none(), g.block(left))
	case 1:
		return g.add(api.NodeTry, g.name(), g.block(left), g.block(left), g.none())
	}
	return g.add(api.NodeTry, g.name(), g.block(left), g.block(left), g.block(left))
}

func (g *grower) choices(left int) int {
	kids, other := []int{g.expr(left)}, g.Intn(4)
	for i := range g.Intn(4) {
		if i == other {
			kids = append(kids, g.add(api.NodeDefault, "", g.statements(left, 2)...))
			continue
		}
		kids = append(kids, g.add(api.NodeCase, "", append([]int{g.expr(left)}, g.statements(left, 2)...)...))
	}
	return g.add(api.NodeSwitch, "", kids...)
}

func (g *grower) expr(left int) int {
	if left <= 0 {
		return g.leaf()
	}
	left--
	switch g.Intn(13) {
	case 0, 1:
		return g.add(api.NodeFunc, g.pick("", g.name()), g.params(), g.block(left))
	case 2:
		return g.add(api.NodeArrow, "", g.params(), g.block(left))
	case 3, 4:
		return g.add(api.NodeArrow, "", g.params(), g.expr(left))
	case 5:
		return g.add(api.NodeAssign, g.pick("=", "+="), g.leafName(), g.expr(left))
	case 6:
		return g.add(api.NodePre+g.Intn(2), "++", g.leafName())
	case 7:
		return g.add(api.NodeUnary, g.pick("typeof", "delete"), g.expr(left))
	case 8:
		return g.object(left)
	case 9:
		return g.add(api.NodeCall+g.Intn(2), "", g.expr(left), g.add(api.NodeSpread, "", g.expr(left)))
	case 10:
		return g.add(api.NodeTemplate, "", g.add(api.NodeStr, ""), g.expr(left), g.add(api.NodeStr, ""))
	case 11:
		return g.add(api.NodeSeq, "", g.expr(left), g.expr(left))
	}
	return g.add(api.NodeDot, g.name(), g.expr(left))
}

func (g *grower) object(left int) int {
	key := g.add(api.NodeComputed, "", g.expr(left))
	getter := g.add(api.NodeFunc, g.pick("", g.name()), g.add(api.NodeParams, ""), g.block(left))
	setter := g.add(api.NodeFunc, "", g.add(api.NodeParams, "", g.leafName()), g.block(left))
	return g.add(api.NodeObject, "", g.add(api.NodeProp, "", key, g.expr(left)),
		g.add(api.NodeGetter, "", g.add(api.NodeNum, ""), getter), g.add(api.NodeSetter, "", g.add(api.NodeStr, ""), setter))
}

func (g *grower) leafName() int { return g.add(api.NodeName, g.name()) }

func (g *grower) leaf() int {
	if g.one(4) {
		return g.add(api.NodeThis, "")
	}
	return g.leafName()
}
