package parse

import (
	"lintel/api"
	"lintel/units"
)

func (p *parser) member() int {
	n := p.primaryOrNew()
	for {
		switch p.next().Text {
		case "(":
			n = p.add(api.NodeCall, p.from(n), "", p.arguments(n)...)
		case ".", "[":
			n = p.access(n)
		default:
			return n
		}
	}
}

// primaryOrNew reads a primary expression, or a new with its callee and its arguments, if it has any.
func (p *parser) primaryOrNew() int {
	if !p.is("new") {
		return p.primary()
	}
	at := p.take().From
	callee := p.primaryOrNew()
	for p.is(".") || p.is("[") {
		callee = p.access(callee)
	}
	if p.is("(") {
		return p.add(api.NodeNew, at, "", p.arguments(callee)...)
	}
	return p.add(api.NodeNew, at, "", callee)
}

// access reads . or [ and what belongs to it, behind n.
func (p *parser) access(n int) int {
	if p.eat("[") {
		key := p.expression(true)
		p.must("]")
		return p.add(api.NodeIndex, p.from(n), "", n, key)
	}
	p.must(".")
	if !p.named() {
		p.fail()
	}
	return p.add(api.NodeDot, p.from(n), p.take().Text, n)
}

// named says whether a name or word is next.
func (p *parser) named() bool {
	return p.next().Kind == api.TokName || p.next().Kind == api.TokWord
}

// arguments reads arguments in parentheses, and answers them behind the callee.
func (p *parser) arguments(callee int) []int {
	kids := []int{callee}
	p.must("(")
	if p.eat(")") {
		return kids
	}
	kids = append(kids, p.argument())
	for p.eat(",") {
		kids = append(kids, p.argument())
	}
	p.must(")")
	return kids
}

func (p *parser) argument() int {
	if p.is("...") {
		at := p.take().From
		return p.add(api.NodeSpread, at, "", p.assignment(true))
	}
	return p.assignment(true)
}

func (p *parser) primary() int {
	t := p.next()
	switch t.Kind {
	case api.TokName:
		return p.leaf(api.NodeName)
	case api.TokNum:
		return p.number()
	case api.TokStr:
		return p.text()
	case api.TokTemplate, api.TokHead:
		return p.template()
	}
	switch t.Text {
	case "this":
		return p.add(api.NodeThis, p.take().From, "")
	case "null":
		return p.add(api.NodeNull, p.take().From, "")
	case "true":
		return p.add(api.NodeTrue, p.take().From, "")
	case "false":
		return p.add(api.NodeFalse, p.take().From, "")
	case "[":
		return p.array()
	case "{":
		return p.object()
	case "function":
		return p.function()
	}
	return p.inParens()
}

// leaf reads a name as a node of that kind.
func (p *parser) leaf(kind int) int {
	name := p.name()
	return p.add(kind, name.From, name.Text)
}

func (p *parser) number() int {
	t := p.take()
	return p.put(api.Node{Kind: api.NodeNum, Num: t.Num, At: t.From})
}

// text reads a token as its text: a text, or a template's piece.
func (p *parser) text() int {
	t := p.take()
	return p.put(api.Node{Kind: api.NodeStr, Str: t.Str, At: t.From})
}

func (p *parser) template() int {
	at, more := p.next().From, p.next().Kind == api.TokHead
	kids := []int{p.text()}
	for more {
		kids = append(kids, p.expression(true))
		kind := p.next().Kind
		if kind != api.TokMiddle && kind != api.TokTail {
			p.fail()
		}
		more = kind == api.TokMiddle
		kids = append(kids, p.text())
	}
	return p.add(api.NodeTemplate, at, "", kids...)
}

func (p *parser) array() int {
	at := p.must("[")
	return p.add(api.NodeArray, at, "", p.list("]", (*parser).argument)...)
}

func (p *parser) object() int {
	at := p.must("{")
	return p.add(api.NodeObject, at, "", p.list("}", (*parser).property)...)
}

// list reads parts with commas between them, and perhaps one behind the last, up to the sign that shuts it.
func (p *parser) list(shut string, part func(*parser) int) []int {
	var kids []int
	for !p.eat(shut) {
		kids = append(kids, part(p))
		if !p.is(shut) {
			p.must(",")
		}
	}
	return kids
}

func (p *parser) property() int {
	if p.accessorAhead() {
		return p.accessor()
	}
	first := p.next()
	key := p.key()
	switch {
	case p.eat(":"):
		return p.add(api.NodeProp, p.from(key), "", key, p.assignment(true))
	case p.is("("):
		return p.add(api.NodeProp, p.from(key), "", key, p.method(p.parameters()))
	case first.Kind != api.TokName:
		p.fail()
	}
	return p.add(api.NodeProp, p.from(key), "", key, p.add(api.NodeName, first.From, first.Text))
}

// accessorAhead says whether get or set is next, and no key itself.
func (p *parser) accessorAhead() bool {
	if !p.is("get") && !p.is("set") {
		return false
	}
	switch p.ahead(1).Text {
	case ",", ":", "(", "}":
		return false
	}
	return true
}

func (p *parser) accessor() int {
	word := p.take()
	key := p.key()
	at, kind, params := p.must("("), api.NodeGetter, []int(nil)
	if word.Text == "set" {
		kind, params = api.NodeSetter, append(params, p.leaf(api.NodeName))
	}
	p.must(")")
	f := p.method(p.add(api.NodeParams, at, "", params...))
	return p.add(kind, word.From, "", key, f)
}

// method reads the function of a property behind its parameters.
func (p *parser) method(params int) int {
	return p.add(api.NodeFunc, p.from(params), "", params, p.block())
}

func (p *parser) key() int {
	switch {
	case p.named():
		t := p.take()
		s, _, _ := units.Of(t.Text)
		return p.put(api.Node{Kind: api.NodeStr, Str: s, At: t.From})
	case p.next().Kind == api.TokStr:
		return p.text()
	case p.next().Kind == api.TokNum:
		return p.number()
	}
	at := p.must("[")
	e := p.assignment(true)
	p.must("]")
	return p.add(api.NodeComputed, at, "", e)
}

func (p *parser) function() int {
	at, name := p.must("function"), ""
	if p.next().Kind == api.TokName {
		name = p.take().Text
	}
	return p.add(api.NodeFunc, at, name, p.parameters(), p.block())
}

// parameters reads those of a function, in parentheses.
func (p *parser) parameters() int {
	at := p.must("(")
	if p.eat(")") {
		return p.add(api.NodeParams, at, "")
	}
	kids := []int{p.parameter()}
	for p.is(",") && p.nodes[kids[len(kids)-1]].Kind == api.NodeName {
		p.take()
		kids = append(kids, p.parameter())
	}
	p.must(")")
	return p.add(api.NodeParams, at, "", kids...)
}

func (p *parser) parameter() int {
	if p.is("...") {
		at := p.take().From
		return p.add(api.NodeRest, at, p.name().Text)
	}
	return p.leaf(api.NodeName)
}
