package parse

import "lintel/api"

func (p *parser) while() int {
	at := p.must("while")
	return p.add(api.NodeWhile, at, "", p.inParens(), p.body())
}

func (p *parser) do() int {
	at := p.must("do")
	body := p.body()
	p.must("while")
	e := p.inParens()
	p.eat(";")
	return p.add(api.NodeDo, at, "", body, e)
}

func (p *parser) loop() int {
	at := p.must("for")
	p.must("(")
	if p.eachAhead() {
		return p.each(at)
	}
	return p.counted(at)
}

// eachAhead says whether what is next begins a for with in or of: a name, which let or const may
// stand ahead of, and one of both.
func (p *parser) eachAhead() bool {
	name := 0
	if p.declares() {
		name = 1
	}
	if p.ahead(name).Kind != api.TokName {
		return false
	}
	word := p.ahead(name + 1).Text
	return word == "in" || word == "of"
}

// each reads a for with in or of from its beginning on.
func (p *parser) each(at int) int {
	first := p.eachName()
	kind, over := api.NodeForIn, 0
	if p.eat("in") {
		over = p.expression(true)
	} else {
		p.must("of")
		kind, over = api.NodeForOf, p.assignment(true)
	}
	p.must(")")
	return p.add(kind, at, "", first, over, p.body())
}

// eachName reads what a for with in or of gives its values to.
func (p *parser) eachName() int {
	if !p.declares() {
		return p.leaf(api.NodeName)
	}
	kind, at := p.declarer()
	return p.add(kind, at, "", p.leaf(api.NodeInit))
}

// counted reads a for with two semicolons from its beginning on.
func (p *parser) counted(at int) int {
	first := 0
	switch {
	case p.declares():
		first = p.declaration(false)
	case p.is(";"):
		first = p.none()
	default:
		first = p.expression(false)
	}
	p.must(";")
	while := p.upTo(";")
	step := p.upTo(")")
	return p.add(api.NodeFor, at, "", first, while, step, p.body())
}

// upTo reads an expression, which may be absent, and the sign behind it.
func (p *parser) upTo(sign string) int {
	if p.eat(sign) {
		return p.none()
	}
	e := p.expression(true)
	p.must(sign)
	return e
}
