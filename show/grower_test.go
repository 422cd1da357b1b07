package show_test

import (
	"math"
	"math/rand"
	"slices"
	"strconv"
	"strings"

	"lintel/api"
	"lintel/tree"
	"lintel/units"
)

// of is the units of what is UTF-8.
func of(s string) api.Str {
	u, _, e := units.Of(s)
	if e != api.OK {
		panic(s)
	}
	return u
}

// drawn is a tree as a text, whatever the numbers of its nodes and their places.
func drawn(l []api.Node) string {
	var out strings.Builder
	var draw func(n int)
	draw = func(n int) {
		out.WriteString("<" + strconv.Itoa(l[n].Kind) + l[n].Text)
		if l[n].Kind == api.NodeStr {
			out.WriteString(strconv.Quote(string(l[n].Str[:len(l[n].Str)&^1])))
		}
		if l[n].Kind == api.NodeNum {
			out.WriteString(":" + strconv.FormatUint(math.Float64bits(l[n].Num), 16))
		}
		for _, k := range l[n].Kids {
			draw(k)
		}
		out.WriteString(">")
	}
	draw(len(l) - 1)
	return out.String()
}

// grower makes trees as they come, such as sources make.
type grower struct {
	*rand.Rand
	l []api.Node
}

// someTree is a tree that some source makes.
func someTree(r *rand.Rand, left int) []api.Node {
	g := &grower{Rand: r}
	g.add(api.NodeScript, "", g.statements(left, 4)...)
	return g.l
}

func (g *grower) add(kind int, text string, kids ...int) int {
	g.l = append(g.l, api.Node{Kind: kind, Text: text, Kids: kids, At: g.Intn(2) * g.Intn(1000)})
	return len(g.l) - 1
}

func (g *grower) pick(some ...string) string { return some[g.Intn(len(some))] }

func (g *grower) name() string {
	return g.pick("a", "b", "of", "get", "set", "eval", "undefined", "$", "_1", "async", "i9")
}

func (g *grower) operator(kind int) string { return g.pick(tree.Operators(kind)...) }

func (g *grower) str() int {
	n := g.add(api.NodeStr, "")
	parts := []string{"a", "$", "{", "}", "`", "\"", "'", "\\", "\n", "\r", "\x00", "1", "\u2028", "\U0001F600", "\u20ac", "/", "u", "\x7f", "if", "b"}
	for range g.Intn(4) {
		g.l[n].Str += of(g.pick(parts...))
	}
	if g.Intn(8) == 0 {
		g.l[n].Str += units.Make([]uint16{[]uint16{0xD800, 0xDC00, 0xDFFF, 0xDBFF}[g.Intn(4)]})
	}
	return n
}

func (g *grower) num() int {
	some := []float64{0, 1, 10, 12, 100, 1000, 1.5, 0.5, 0.05, 0.001, 1e21, 1e-7, 123456789012, 5e-324, math.MaxFloat64, math.Inf(1), 1 << 53, 1e300}
	n := g.add(api.NodeNum, "")
	g.l[n].Num = some[g.Intn(len(some))]
	if g.Intn(4) == 0 {
		g.l[n].Num = math.Abs(math.Float64frombits(g.Uint64()))
	}
	if math.IsNaN(g.l[n].Num) {
		g.l[n].Num = 7
	}
	return n
}

func (g *grower) many(most int, one func() int) []int {
	var kids []int
	for range g.Intn(most + 1) {
		kids = append(kids, one())
	}
	return kids
}

func (g *grower) args(left int) []int {
	return g.many(2, func() int {
		e := g.e(left)
		if g.Intn(4) == 0 {
			return g.add(api.NodeSpread, "", e)
		}
		return e
	})
}

func (g *grower) params() int {
	kids := g.many(2, func() int { return g.add(api.NodeName, g.name()) })
	if g.Intn(4) == 0 {
		kids = append(kids, g.add(api.NodeRest, g.name()))
	}
	return g.add(api.NodeParams, "", kids...)
}

func (g *grower) target(left int) int {
	switch g.Intn(3) {
	case 0:
		return g.add(api.NodeDot, g.pick("a", "in", "new", "of"), g.e(left))
	case 1:
		return g.add(api.NodeIndex, "", g.e(left), g.e(left))
	}
	return g.add(api.NodeName, g.name())
}

// e is an expression.
func (g *grower) e(left int) int {
	kinds := []int{api.NodeNum, api.NodeStr, api.NodeTrue, api.NodeFalse, api.NodeNull, api.NodeName, api.NodeName, api.NodeThis}
	if left > 0 {
		kinds = append(kinds, 8, 9, 13, 14, 15, 15, 16, 16, 17, 17, 18, 19, 19, 20, 21, 22, 22, 22, 22, 23, 24, 25, 26, 27, 28)
	}
	left--
	switch kind := kinds[g.Intn(len(kinds))]; kind {
	case api.NodeNum:
		return g.num()
	case api.NodeStr:
		return g.str()
	case api.NodeName:
		return g.add(kind, g.name())
	case api.NodeArray:
		return g.add(kind, "", g.args(left)...)
	case api.NodeObject:
		return g.add(kind, "", g.many(3, func() int { return g.property(left) })...)
	case api.NodeFunc:
		return g.add(kind, g.pick("", g.name()), g.params(), g.block(left))
	case api.NodeArrow:
		params := g.params()
		if g.Intn(3) == 0 {
			return g.add(kind, "", params, g.block(left))
		}
		return g.add(kind, "", params, g.e(left))
	case api.NodeCall, api.NodeNew:
		return g.add(kind, "", append([]int{g.e(left)}, g.args(left)...)...)
	case api.NodeDot:
		return g.add(kind, g.pick("a", "in", "new", "of"), g.e(left))
	case api.NodeUnary:
		return g.add(kind, g.operator(kind), g.e(left))
	case api.NodePre, api.NodePost:
		return g.add(kind, g.operator(kind), g.target(left))
	case api.NodeBinary:
		return g.add(kind, g.pick(g.operator(kind), "in", "**"), g.e(left), g.e(left))
	case api.NodeIndex, api.NodeAnd, api.NodeOr:
		return g.add(kind, "", g.e(left), g.e(left))
	case api.NodeCond:
		return g.add(kind, "", g.e(left), g.e(left), g.e(left))
	case api.NodeAssign:
		return g.add(kind, g.operator(kind), g.target(left), g.e(left))
	case api.NodeSeq:
		return g.add(kind, "", append([]int{g.e(left), g.e(left)}, g.many(1, func() int { return g.e(left) })...)...)
	case api.NodeTemplate:
		kids := []int{g.str()}
		for range g.Intn(3) {
			kids = append(kids, g.e(left), g.str())
		}
		return g.add(kind, "", kids...)
	default:
		return g.add(kind, "")
	}
}

func (g *grower) property(left int) int {
	key, params := 0, []int(nil)
	switch g.Intn(4) {
	case 0:
		key = g.num()
	case 1:
		key = g.add(api.NodeComputed, "", g.e(left))
	case 2:
		key = g.str()
	default:
		key = g.add(api.NodeStr, "")
		g.l[key].Str = of(g.pick("a", "b", "get", "set", "if", "of", "null", "a b", "1", ""))
	}
	switch kind := api.NodeProp + g.Intn(3); {
	case kind == api.NodeProp && g.Intn(3) == 0:
		return g.add(kind, "", key, g.add(api.NodeName, g.pick("a", "b", "get", "set", "of")))
	case kind == api.NodeProp:
		return g.add(kind, "", key, g.e(left))
	case kind == api.NodeSetter:
		params = append(params, g.add(api.NodeName, g.name()))
		fallthrough
	default:
		p := g.add(api.NodeParams, "", params...)
		return g.add(kind, "", key, g.add(api.NodeFunc, "", p, g.block(left)))
	}
}

func (g *grower) block(left int) int { return g.add(api.NodeBlock, "", g.statements(left, 2)...) }

func (g *grower) statements(left, most int) []int {
	return g.many(most, func() int { return g.statement(left) })
}

func (g *grower) statement(left int) int {
	switch g.Intn(8) {
	case 0:
		return g.declaration(left)
	case 1:
		return g.add(api.NodeFun, g.name(), g.params(), g.block(left-1))
	}
	return g.body(left, true)
}

func (g *grower) declaration(left int) int {
	inits := g.many(1, func() int { return g.add(api.NodeInit, g.name()) })
	inits = append(inits, g.add(api.NodeInit, g.name(), g.e(left-2)))
	g.Shuffle(len(inits), func(i, j int) { inits[i], inits[j] = inits[j], inits[i] })
	return g.add(api.NodeLet+g.Intn(2), "", inits...)
}

func (g *grower) or(none bool, left int) int {
	if none {
		return g.add(api.NodeNone, "")
	}
	return g.e(left)
}

// body is one; open: it may end with an if without an else.
func (g *grower) body(left int, open bool) int {
	kinds := []int{api.NodeEmpty, api.NodeExpr, api.NodeExpr, api.NodeBreak, api.NodeContinue, api.NodeReturn, api.NodeThrow}
	if left > 0 {
		kinds = append(kinds, 32, 38, 38, 39, 39, 40, 41, 42, 43, 43, 48, 49, 52)
	}
	left--
	switch kind := kinds[g.Intn(len(kinds))]; kind {
	case api.NodeBlock:
		return g.block(left)
	case api.NodeIf:
		if open && g.Intn(2) == 0 {
			return g.add(kind, "", g.e(left), g.body(left, true))
		}
		return g.add(kind, "", g.e(left), g.body(left, false), g.body(left, open))
	case api.NodeFor:
		return g.add(kind, "", g.first(left), g.or(g.Intn(2) == 0, left), g.or(g.Intn(2) == 0, left), g.body(left, open))
	case api.NodeForIn, api.NodeForOf:
		first := g.add(api.NodeName, g.name())
		if g.Intn(2) == 0 {
			first = g.add(api.NodeLet+g.Intn(2), "", g.renamed(first))
		}
		return g.add(kind, "", first, g.e(left), g.body(left, open))
	case api.NodeWhile:
		return g.add(kind, "", g.e(left), g.body(left, open))
	case api.NodeDo:
		return g.add(kind, "", g.body(left, true), g.e(left))
	case api.NodeBreak, api.NodeContinue:
		return g.add(kind, g.pick("", g.name()))
	case api.NodeTry:
		return g.attempt(left)
	case api.NodeSwitch:
		return g.cases(left)
	case api.NodeLabel:
		return g.add(kind, g.name(), g.body(left, open))
	case api.NodeExpr, api.NodeThrow:
		return g.add(kind, "", g.e(left))
	case api.NodeReturn:
		return g.add(kind, "", g.many(1, func() int { return g.e(left) })...)
	default:
		return g.add(kind, "")
	}
}

// renamed makes a NodeName a NodeInit without a value.
func (g *grower) renamed(n int) int {
	g.l[n].Kind = api.NodeInit
	return n
}

func (g *grower) first(left int) int {
	if g.Intn(3) == 0 {
		return g.declaration(left)
	}
	return g.or(g.Intn(3) == 0, left)
}

func (g *grower) attempt(left int) int {
	block := g.block(left)
	switch g.Intn(3) {
	case 0:
		return g.add(api.NodeTry, "", block, g.add(api.NodeNone, ""), g.block(left))
	case 1:
		return g.add(api.NodeTry, g.name(), block, g.block(left), g.add(api.NodeNone, ""))
	}
	return g.add(api.NodeTry, g.name(), block, g.block(left), g.block(left))
}

func (g *grower) cases(left int) int {
	kids := []int{g.e(left)}
	kids = append(kids, g.many(2, func() int { return g.add(api.NodeCase, "", append([]int{g.e(left)}, g.statements(left, 2)...)...) })...)
	if g.Intn(2) == 0 {
		kids = slices.Insert(kids, 1+g.Intn(len(kids)), g.add(api.NodeDefault, "", g.statements(left, 2)...))
	}
	return g.add(api.NodeSwitch, "", kids...)
}
