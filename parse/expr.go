package parse

import (
	"strings"

	"lintel/api"
	"lintel/tree"
)

// How strongly operators hold their sides together, from the loosest on; 0: what is none. (** and those
// of one side alone are told apart where they are read.)
const (
	assigns = iota + 1
	loosest // of those between two values
)

// strengths is how strong each operator is.
func strengths() map[string]int {
	out := map[string]int{}
	for _, o := range tree.Operators(api.NodeAssign) {
		out[o] = assigns
	}
	for i, level := range []string{"||", "&&", "|", "^", "&", "== != === !==", "< > <= >= instanceof in", "<< >> >>>", "+ -", "* / %"} {
		for _, o := range strings.Fields(level) {
			out[o] = loosest + i
		}
	}
	return out
}

// strength is that of the next token.
func (p *parser) strength() int { return p.strengths[p.next().Text] }

// expression reads one; in: it may have an in that no bracket is about.
func (p *parser) expression(in bool) int {
	first := p.assignment(in)
	if !p.is(",") {
		return first
	}
	kids := []int{first}
	for p.eat(",") {
		kids = append(kids, p.assignment(in))
	}
	return p.add(api.NodeSeq, p.from(first), "", kids...)
}

func (p *parser) assignment(in bool) int {
	if p.arrowAhead() {
		return p.arrow(in)
	}
	n := p.conditional(in)
	if p.strength() != assigns {
		return n
	}
	p.mustBeTarget(n, p.next())
	o := p.take()
	return p.add(api.NodeAssign, p.from(n), o.Text, n, p.assignment(in))
}

// mustBeTarget throws the place of the operator o unless n may be assigned to.
func (p *parser) mustBeTarget(n int, o *api.Token) {
	switch p.nodes[n].Kind {
	case api.NodeName, api.NodeDot, api.NodeIndex:
	default:
		panic(place(o.From))
	}
}

// arrowAhead says whether what is next begins an arrow, or could begin nothing else.
func (p *parser) arrowAhead() bool {
	switch {
	case p.next().Kind == api.TokName:
		return p.arrowAt(1)
	case p.is("("):
		return p.ahead(1).Text == ")" || p.parametersAhead()
	}
	return false
}

// arrowAt says whether the token behind so many others is an arrow's sign, on the line of the one ahead.
func (p *parser) arrowAt(count int) bool {
	t := p.ahead(count)
	return t.Text == "=>" && !t.Line
}

// parametersAhead says whether what is next are parameters, at least one, of an arrow. A rest alone
// tells it: no expression in parentheses has one, whatever comes behind.
func (p *parser) parametersAhead() bool {
	for i := 1; ; i += 2 {
		if p.ahead(i).Text == "..." {
			return true
		}
		if p.ahead(i).Kind != api.TokName {
			return false
		}
		switch p.ahead(i + 1).Text {
		case ",":
		case ")":
			return p.arrowAt(i + 2)
		default:
			return false
		}
	}
}

func (p *parser) arrow(in bool) int {
	params := p.arrowParameters()
	if !p.arrowAt(0) {
		p.fail()
	}
	p.take()
	if p.is("{") {
		return p.add(api.NodeArrow, p.from(params), "", params, p.block())
	}
	return p.add(api.NodeArrow, p.from(params), "", params, p.assignment(in))
}

func (p *parser) arrowParameters() int {
	if p.is("(") {
		return p.parameters()
	}
	name := p.leaf(api.NodeName)
	return p.add(api.NodeParams, p.from(name), "", name)
}

func (p *parser) conditional(in bool) int {
	n := p.binary(loosest, in)
	if !p.eat("?") {
		return n
	}
	then := p.assignment(true)
	p.must(":")
	return p.add(api.NodeCond, p.from(n), "", n, then, p.assignment(in))
}

// binary reads operators between two that are not looser than least. All of these hold to the left:
// what is right of one is stronger.
func (p *parser) binary(least int, in bool) int {
	n := p.power()
	for p.strength() >= least && (in || !p.is("in")) {
		strength, o := p.strength(), p.take()
		n = p.between(o.Text, n, p.binary(strength+1, in))
	}
	return n
}

// between puts the node of an operator between two.
func (p *parser) between(o string, left, right int) int {
	switch o {
	case "||":
		return p.add(api.NodeOr, p.from(left), "", left, right)
	case "&&":
		return p.add(api.NodeAnd, p.from(left), "", left, right)
	}
	return p.add(api.NodeBinary, p.from(left), o, left, right)
}

// power reads **, which holds to the right.
func (p *parser) power() int {
	noBase := isUnary(p.next().Text)
	n := p.unary()
	if !p.is("**") {
		return n
	}
	if noBase {
		p.fail()
	}
	o := p.take()
	return p.between(o.Text, n, p.power())
}

// isUnary says whether an operator stands ahead of its one side, and gives that no new value.
func isUnary(operator string) bool {
	switch operator {
	case "delete", "void", "typeof", "+", "-", "~", "!":
		return true
	}
	return false
}

func isStep(operator string) bool { return operator == "++" || operator == "--" }

func (p *parser) unary() int {
	o := p.next()
	switch {
	case isUnary(o.Text):
		p.take()
		return p.add(api.NodeUnary, o.From, o.Text, p.unary())
	case isStep(o.Text):
		p.take()
		n := p.unary()
		p.mustBeTarget(n, o)
		return p.add(api.NodePre, o.From, o.Text, n)
	}
	return p.postfix()
}

func (p *parser) postfix() int {
	n := p.member()
	if o := p.next(); isStep(o.Text) && !o.Line {
		p.mustBeTarget(n, o)
		p.take()
		return p.add(api.NodePost, p.from(n), o.Text, n)
	}
	return n
}
