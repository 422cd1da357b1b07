package early_test

import (
	"math/rand"

	"lintel/api"
	"lintel/tree"
)

// bud is a node with its kids in place of their numbers.
type bud struct {
	node api.Node
	kids []bud
}

// grower grows trees as they come, by the document's table of nodes, with few names.
type grower struct{ *rand.Rand }

// script is a tree with places as they come, whose nodes stand in any order that lets kids stand ahead.
func (g grower) script(left int) []api.Node {
	return g.laid(g.bud(api.NodeScript, "", g.statements(left, 4)...))
}

func (g grower) bud(kind int, text string, kids ...bud) bud {
	return bud{api.Node{Kind: kind, Text: text, At: g.Intn(1000)}, kids}
}

// laid puts the nodes of b one behind the other, each when its kids stand.
func (g grower) laid(b bud) []api.Node {
	type open struct {
		b    *bud
		up   int // of those that wait
		at   int // which kid it is
		owed int // kids that do not stand yet
	}
	waiting := []open{{b: &b, up: -1, owed: len(b.kids)}}
	for i := 0; i < len(waiting); i++ {
		w := waiting[i].b
		w.node.Kids = make([]int, len(w.kids))
		for at := range w.kids {
			waiting = append(waiting, open{b: &w.kids[at], up: i, at: at, owed: len(w.kids[at].kids)})
		}
	}
	var ready []int
	for i, w := range waiting {
		if w.owed == 0 {
			ready = append(ready, i)
		}
	}
	var out []api.Node
	for len(ready) > 0 {
		i := g.Intn(len(ready))
		w := waiting[ready[i]]
		ready = append(ready[:i], ready[i+1:]...)
		if w.up >= 0 {
			up := &waiting[w.up]
			up.b.node.Kids[w.at] = len(out)
			if up.owed--; up.owed == 0 {
				ready = append(ready, w.up)
			}
		}
		out = append(out, w.b.node)
	}
	return out
}

func (g grower) pick(some ...string) string { return some[g.Intn(len(some))] }

func (g grower) one(count int) bool { return g.Intn(count) == 0 }

// name is seldom one that may not be named.
func (g grower) name() string {
	if g.one(30) {
		return g.pick("eval", "arguments")
	}
	return g.pick("a", "b", "c", "d", "e", "f", "g", "h")
}

// label is one of few, or none.
func (g grower) label() string { return g.pick("", "", "a", "b", "c") }

func (g grower) many(most int, one func() bud) []bud {
	var out []bud
	for range g.Intn(most + 1) {
		out = append(out, one())
	}
	return out
}

func (g grower) statements(left, most int) []bud {
	return g.many(most, func() bud { return g.statement(left) })
}

func (g grower) block(left int) bud { return g.bud(api.NodeBlock, "", g.statements(left-1, 3)...) }

func (g grower) statement(left int) bud {
	switch g.Intn(6) {
	case 0, 1:
		return g.declaration(left)
	case 2:
		return g.bud(api.NodeFun, g.name(), g.params(), g.block(left))
	}
	return g.body(left)
}

func (g grower) declaration(left int) bud {
	kind := api.NodeLet + g.Intn(2)
	kids := append([]bud{g.initial(left, kind)}, g.many(1, func() bud { return g.initial(left, kind) })...)
	return g.bud(kind, "", kids...)
}

func (g grower) initial(left, kind int) bud {
	if g.one(2) && kind == api.NodeLet || g.one(10) {
		return g.bud(api.NodeInit, g.name())
	}
	return g.bud(api.NodeInit, g.name(), g.expr(left-1))
}

func (g grower) params() bud {
	kids := g.many(2, func() bud { return g.bud(api.NodeName, g.name()) })
	if g.one(4) {
		kids = append(kids, g.bud(api.NodeRest, g.name()))
	}
	return g.bud(api.NodeParams, "", kids...)
}

func (g grower) body(left int) bud {
	if left <= 0 {
		return g.small()
	}
	left--
	switch g.Intn(13) {
	case 0:
		return g.bud(api.NodeIf, "", append([]bud{g.expr(left), g.body(left)}, g.many(1, func() bud { return g.body(left) })...)...)
	case 1:
		return g.bud(api.NodeWhile, "", g.expr(left), g.body(left))
	case 2:
		return g.bud(api.NodeDo, "", g.body(left), g.expr(left))
	case 3:
		return g.bud(api.NodeFor, "", g.beginning(left), g.perhaps(left), g.perhaps(left), g.body(left))
	case 4:
		return g.bud(api.NodeForIn+g.Intn(2), "", g.each(), g.expr(left), g.body(left))
	case 5, 6:
		return g.bud(api.NodeLabel, g.pick("a", "b", "c"), g.body(left))
	case 7:
		return g.attempt(left)
	case 8:
		return g.choices(left)
	case 9, 10:
		return g.block(left)
	case 11:
		return g.bud(api.NodeExpr, "", g.expr(left))
	}
	return g.small()
}

// small is a statement without others in it.
func (g grower) small() bud {
	switch g.Intn(12) {
	case 0, 1:
		return g.bud(api.NodeBreak, g.label())
	case 2, 3:
		return g.bud(api.NodeContinue, g.label())
	case 4:
		return g.bud(api.NodeReturn, "", g.many(1, func() bud { return g.expr(0) })...)
	case 5:
		return g.bud(api.NodeThrow, "", g.expr(0))
	case 6:
		return g.bud(api.NodeEmpty, "")
	}
	return g.bud(api.NodeExpr, "", g.expr(0))
}

func (g grower) beginning(left int) bud {
	if g.one(2) {
		return g.declaration(left)
	}
	return g.perhaps(left)
}

func (g grower) perhaps(left int) bud {
	if g.one(2) {
		return g.bud(api.NodeNone, "")
	}
	return g.expr(left)
}

func (g grower) each() bud {
	if g.one(2) {
		return g.bud(api.NodeName, g.name())
	}
	return g.bud(api.NodeLet+g.Intn(2), "", g.bud(api.NodeInit, g.name()))
}

func (g grower) attempt(left int) bud {
	switch g.Intn(3) {
	case 0:
		return g.bud(api.NodeTry, "", g.block(left), g.bud(api.NodeNone, ""), g.block(left))
	case 1:
		return g.bud(api.NodeTry, g.name(), g.block(left), g.block(left), g.bud(api.NodeNone, ""))
	}
	return g.bud(api.NodeTry, g.name(), g.block(left), g.block(left), g.block(left))
}

func (g grower) choices(left int) bud {
	kids, other := []bud{g.expr(left)}, g.Intn(4)
	for i := range g.Intn(4) {
		if i == other {
			kids = append(kids, g.bud(api.NodeDefault, "", g.statements(left, 2)...))
			continue
		}
		kids = append(kids, g.bud(api.NodeCase, "", append([]bud{g.expr(left)}, g.statements(left, 2)...)...))
	}
	return g.bud(api.NodeSwitch, "", kids...)
}

func (g grower) expr(left int) bud {
	if left <= 0 {
		return g.leaf()
	}
	left--
	switch g.Intn(14) {
	case 0:
		return g.bud(api.NodeFunc, g.pick("", g.name()), g.params(), g.block(left))
	case 1:
		return g.bud(api.NodeArrow, "", g.params(), g.block(left))
	case 2:
		return g.bud(api.NodeArrow, "", g.params(), g.expr(left))
	case 3:
		return g.bud(api.NodeAssign, g.pick(tree.Operators(api.NodeAssign)...), g.target(left), g.expr(left))
	case 4:
		return g.bud(api.NodePre+g.Intn(2), g.pick("++", "--"), g.target(left))
	case 5:
		return g.bud(api.NodeUnary, g.pick(tree.Operators(api.NodeUnary)...), g.expr(left))
	case 6:
		return g.bud(api.NodeUnary, "delete", g.target(left))
	case 7:
		return g.object(left)
	case 8:
		return g.bud(api.NodeCall+g.Intn(2), "", append([]bud{g.expr(left)}, g.many(2, func() bud { return g.expr(left) })...)...)
	case 9:
		return g.bud(api.NodeArray, "", g.bud(api.NodeSpread, "", g.expr(left)), g.expr(left))
	case 10:
		return g.bud(api.NodeTemplate, "", g.bud(api.NodeStr, ""), g.expr(left), g.bud(api.NodeStr, ""))
	case 11:
		return g.bud([]int{api.NodeAnd, api.NodeOr, api.NodeSeq}[g.Intn(3)], "", g.expr(left), g.expr(left))
	}
	return g.target(left)
}

func (g grower) object(left int) bud {
	key := g.bud(api.NodeComputed, "", g.expr(left))
	none := g.bud(api.NodeFunc, g.pick("", g.name()), g.bud(api.NodeParams, ""), g.block(left))
	one := g.bud(api.NodeFunc, g.pick("", g.name()), g.bud(api.NodeParams, "", g.bud(api.NodeName, g.name())), g.block(left))
	return g.bud(api.NodeObject, "", g.bud(api.NodeProp, "", key, g.expr(left)),
		g.bud(api.NodeGetter, "", g.bud(api.NodeNum, ""), none), g.bud(api.NodeSetter, "", g.bud(api.NodeStr, ""), one))
}

func (g grower) target(left int) bud {
	switch {
	case left > 0 && g.one(3):
		return g.bud(api.NodeDot, g.name(), g.expr(left-1))
	case left > 0 && g.one(3):
		return g.bud(api.NodeIndex, "", g.expr(left-1), g.expr(left-1))
	}
	return g.bud(api.NodeName, g.name())
}

func (g grower) leaf() bud {
	if g.one(2) {
		return g.bud(api.NodeName, g.name())
	}
	return g.bud([]int{api.NodeNum, api.NodeStr, api.NodeTrue, api.NodeFalse, api.NodeNull, api.NodeThis}[g.Intn(6)], "")
}
