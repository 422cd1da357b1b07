package show

import "lintel/api"

// How strongly the parts of an expression hold together, from the loosest on.
const (
	sequence = iota
	assignment
	conditional
	either // ||
	both   // &&
	bitOr
	bitXor
	bitAnd
	equality
	relation
	shift
	sum
	product
	power
	unary
	step // ++ and -- ahead: a base of ** as no other unary one is
	postfix
	newAlone // new without arguments
	call
	member
	primary
)

// spot is where an expression stands: what may not stand there without parentheses.
type spot struct {
	least int   // none looser than that
	front front // what its first token may not be
	noIn  bool  // none with a free in
}

// front is what an expression's first token may not be.
type front int

const (
	anything   front = iota
	noBrace          // an arrow's: { would begin a block
	noFunction       // a statement's: neither { nor function
)

// at is the spot of a kid that stands behind a first token.
func (s spot) at(least int) spot { return spot{least: least, noIn: s.noIn} }

// first is the spot of a kid that begins what stands at s.
func (s spot) first(least int) spot { return spot{least, s.front, s.noIn} }

// strength is how strongly n's parts hold together.
func (w *writer) strength(n api.Node) int {
	switch n.Kind {
	case api.NodeSeq:
		return sequence
	case api.NodeAssign, api.NodeArrow:
		return assignment
	case api.NodeCond:
		return conditional
	case api.NodeOr, api.NodeAnd, api.NodeBinary:
		return strengthOf(operator(n))
	case api.NodeUnary:
		return unary
	case api.NodePre:
		return step
	case api.NodePost:
		return postfix
	case api.NodeNew:
		if len(n.Kids) == 1 {
			return newAlone
		}
		return member
	case api.NodeCall:
		return call
	case api.NodeDot, api.NodeIndex:
		// Behind new a call in its front would end the callee.
		if w.strength(w.kid(n, 0)) == call {
			return call
		}
		return member
	}
	return primary
}

// operator is what stands between n's two kids.
func operator(n api.Node) string {
	switch n.Kind {
	case api.NodeOr:
		return "||"
	case api.NodeAnd:
		return "&&"
	}
	return n.Text
}

// strengthOf is an operator's strength between two.
func strengthOf(operator string) int {
	switch operator {
	case "||":
		return either
	case "&&":
		return both
	case "|":
		return bitOr
	case "^":
		return bitXor
	case "&":
		return bitAnd
	case "==", "!=", "===", "!==":
		return equality
	case "<<", ">>", ">>>":
		return shift
	case "+", "-":
		return sum
	case "*", "/", "%":
		return product
	case "**":
		return power
	}
	return relation
}

// expr writes the expression n, in parentheses where it must.
func (w *writer) expr(n api.Node, s spot) {
	if w.mayStand(n, s) {
		w.bare(n, s)
		return
	}
	w.token("(")
	w.bare(n, spot{})
	w.token(")")
}

func (w *writer) mayStand(n api.Node, s spot) bool {
	switch {
	case n.Kind == api.NodeObject:
		return s.front == anything
	case n.Kind == api.NodeFunc:
		return s.front != noFunction
	case s.noIn && n.Kind == api.NodeBinary && n.Text == "in":
		return false
	}
	return w.strength(n) >= s.least
}

// bare writes the expression n, which may stand there as it is.
func (w *writer) bare(n api.Node, s spot) {
	switch n.Kind {
	case api.NodeAssign:
		w.expr(w.kid(n, 0), s.first(call))
		w.token(n.Text)
		w.expr(w.kid(n, 1), s.at(assignment))
	case api.NodeArrow:
		w.arrow(n, s)
	case api.NodeCond:
		w.expr(w.kid(n, 0), s.first(either))
		w.token("?")
		w.expr(w.kid(n, 1), spot{least: assignment})
		w.token(":")
		w.expr(w.kid(n, 2), s.at(assignment))
	case api.NodeOr, api.NodeAnd, api.NodeBinary:
		w.binary(n, s)
	case api.NodeUnary, api.NodePre:
		w.token(n.Text)
		w.expr(w.kid(n, 0), s.at(unary))
	case api.NodePost:
		w.expr(w.kid(n, 0), s.first(call))
		w.token(n.Text)
	case api.NodeSeq:
		w.expr(w.kid(n, 0), s.first(assignment))
		for _, k := range n.Kids[1:] {
			w.token(",")
			w.expr(w.nodes[k], s.at(assignment))
		}
	default:
		w.member(n, s)
	}
}

// binary writes an operator between its kids: all of them hold to the left, but for **, which holds
// to the right and has no unary operator on its left.
func (w *writer) binary(n api.Node, s spot) {
	o := operator(n)
	left, right := strengthOf(o), strengthOf(o)+1
	if o == "**" {
		left, right = step, power
	}
	w.expr(w.kid(n, 0), s.first(left))
	w.token(o)
	w.expr(w.kid(n, 1), s.at(right))
}

// member writes what may have . [ ( behind it.
func (w *writer) member(n api.Node, s spot) {
	switch n.Kind {
	case api.NodeDot:
		w.expr(w.kid(n, 0), s.first(call))
		w.token("." + n.Text)
	case api.NodeIndex:
		w.expr(w.kid(n, 0), s.first(call))
		w.token("[")
		w.expr(w.kid(n, 1), spot{})
		w.token("]")
	case api.NodeCall:
		w.expr(w.kid(n, 0), s.first(call))
		w.arguments("(", n.Kids[1:], ")")
	case api.NodeNew:
		w.construct(n)
	default:
		w.primary(n)
	}
}

// construct writes a new. Its callee has no call in it, as its own arguments would be taken for that
// one's; one that is a new without arguments would take them, too, if there are any.
func (w *writer) construct(n api.Node) {
	callee, least := w.kid(n, 0), member
	if len(n.Kids) == 1 && w.strength(callee) == newAlone {
		least = newAlone
	}
	w.token("new")
	w.expr(callee, spot{least: least})
	if len(n.Kids) > 1 {
		w.arguments("(", n.Kids[1:], ")")
	}
}

// arguments writes expressions and spreads between two brackets.
func (w *writer) arguments(open string, kids []int, shut string) {
	w.token(open)
	for i, k := range kids {
		if i > 0 {
			w.token(",")
		}
		n := w.nodes[k]
		if n.Kind == api.NodeSpread {
			w.token("...")
			n = w.kid(n, 0)
		}
		w.expr(n, spot{least: assignment})
	}
	w.token(shut)
}

func (w *writer) primary(n api.Node) {
	switch n.Kind {
	case api.NodeNum:
		w.token(number(n.Num))
	case api.NodeStr:
		w.token(text(n.Str))
	case api.NodeTrue:
		w.token("true")
	case api.NodeFalse:
		w.token("false")
	case api.NodeNull:
		w.token("null")
	case api.NodeName:
		w.token(n.Text)
	case api.NodeThis:
		w.token("this")
	case api.NodeArray:
		w.arguments("[", n.Kids, "]")
	case api.NodeObject:
		w.object(n)
	case api.NodeFunc:
		w.token("function")
		w.function(n)
	case api.NodeTemplate:
		w.template(n)
	}
}

// template writes a template: the pieces of its text with the signs around them are tokens.
func (w *writer) template(n api.Node) {
	open := "`"
	for i := range n.Kids {
		kid := w.kid(n, i)
		switch {
		case i%2 == 1:
			w.expr(kid, spot{})
			open = "}"
		case i < len(n.Kids)-1:
			w.token(open + piece(kid.Str) + "${")
		default:
			w.token(open + piece(kid.Str) + "`")
		}
	}
}

func (w *writer) object(n api.Node) {
	w.token("{")
	for i := range n.Kids {
		if i > 0 {
			w.token(",")
		}
		w.property(w.kid(n, i))
	}
	w.token("}")
}

func (w *writer) property(n api.Node) {
	named, value := w.kid(n, 0), w.kid(n, 1)
	switch n.Kind {
	case api.NodeGetter:
		w.token("get")
	case api.NodeSetter:
		w.token("set")
	}
	w.key(named)
	switch {
	case n.Kind != api.NodeProp || value.Kind == api.NodeFunc && value.Text == "":
		w.parameters(w.kid(value, 0))
		w.block(w.kid(value, 1))
	case value.Kind == api.NodeName && named.Kind == api.NodeStr && key(named.Str) == value.Text:
		// The key alone stands for both.
	default:
		w.token(":")
		w.expr(value, spot{least: assignment})
	}
}

func (w *writer) key(n api.Node) {
	switch n.Kind {
	case api.NodeStr:
		w.token(key(n.Str))
	case api.NodeNum:
		w.token(number(n.Num))
	case api.NodeComputed:
		w.token("[")
		w.expr(w.kid(n, 0), spot{least: assignment})
		w.token("]")
	}
}

// function writes a function behind its word.
func (w *writer) function(n api.Node) {
	if n.Text != "" {
		w.token(n.Text)
	}
	w.parameters(w.kid(n, 0))
	w.block(w.kid(n, 1))
}

// parameters writes a NodeParams, in parentheses.
func (w *writer) parameters(n api.Node) {
	w.token("(")
	for i := range n.Kids {
		if i > 0 {
			w.token(",")
		}
		kid := w.kid(n, i)
		if kid.Kind == api.NodeRest {
			w.token("...")
		}
		w.token(kid.Text)
	}
	w.token(")")
}

func (w *writer) arrow(n api.Node, s spot) {
	params, body := w.kid(n, 0), w.kid(n, 1)
	if len(params.Kids) == 1 && w.kid(params, 0).Kind == api.NodeName {
		w.token(w.kid(params, 0).Text)
	} else {
		w.parameters(params)
	}
	w.token("=>")
	if body.Kind == api.NodeBlock {
		w.block(body)
		return
	}
	w.expr(body, spot{assignment, noBrace, s.noIn})
}
