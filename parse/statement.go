package parse

import "lintel/api"

// statements is how those are read that begin with a word or sign of their own.
func statements() map[string]func(*parser) int {
	return map[string]func(*parser) int{
		"{":        (*parser).block,
		";":        (*parser).empty,
		"let":      (*parser).declared,
		"const":    (*parser).declared,
		"function": (*parser).declaredFunction,
		"if":       (*parser).choice,
		"while":    (*parser).while,
		"do":       (*parser).do,
		"for":      (*parser).loop,
		"break":    (*parser).leave,
		"continue": (*parser).leave,
		"return":   (*parser).answer,
		"throw":    (*parser).throw,
		"try":      (*parser).try,
		"switch":   (*parser).choices,
	}
}

// script reads all tokens as a script.
func (p *parser) script() {
	var kids []int
	for p.next().Kind != api.TokEnd {
		kids = append(kids, p.statement())
	}
	p.add(api.NodeScript, 0, "", kids...)
}

// alone reads all tokens as one expression.
func (p *parser) alone() {
	e := p.expression(true)
	if p.next().Kind != api.TokEnd {
		p.fail()
	}
	p.add(api.NodeScript, 0, "", p.add(api.NodeExpr, p.from(e), "", e))
}

func (p *parser) statement() int {
	if read, ok := p.statements[p.next().Text]; ok {
		return read(p)
	}
	if p.next().Kind == api.TokName && p.ahead(1).Text == ":" {
		return p.label()
	}
	e := p.expression(true)
	p.end()
	return p.add(api.NodeExpr, p.from(e), "", e)
}

// body reads a statement that declares nothing. (Of a label's body the label asks.)
func (p *parser) body() int {
	if p.declares() || p.is("function") {
		p.fail()
	}
	return p.statement()
}

func (p *parser) declares() bool { return p.is("let") || p.is("const") }

// end reads the end of a statement: a semicolon, or nothing where that may be left out.
func (p *parser) end() {
	if !p.eat(";") && !p.endsUnsaid() {
		p.fail()
	}
}

// endsUnsaid says whether a statement may end ahead of the next token without a semicolon.
func (p *parser) endsUnsaid() bool {
	return p.is("}") || p.next().Kind == api.TokEnd || p.next().Line
}

func (p *parser) block() int {
	at := p.must("{")
	var kids []int
	for !p.eat("}") {
		kids = append(kids, p.statement())
	}
	return p.add(api.NodeBlock, at, "", kids...)
}

func (p *parser) empty() int { return p.add(api.NodeEmpty, p.must(";"), "") }

func (p *parser) label() int {
	name := p.name()
	p.must(":")
	return p.add(api.NodeLabel, name.From, name.Text, p.body())
}

func (p *parser) declared() int {
	n := p.declaration(true)
	p.end()
	return n
}

// declaration reads a let or const without its end.
func (p *parser) declaration(in bool) int {
	kind, at := p.declarer()
	kids := []int{p.initial(in)}
	for p.eat(",") {
		kids = append(kids, p.initial(in))
	}
	return p.add(kind, at, "", kids...)
}

// declarer passes over let or const.
func (p *parser) declarer() (kind, at int) {
	if p.is("let") {
		return api.NodeLet, p.take().From
	}
	return api.NodeConst, p.must("const")
}

// initial reads a name of a let or const with its first value, if it has one.
func (p *parser) initial(in bool) int {
	name := p.name()
	if p.eat("=") {
		return p.add(api.NodeInit, name.From, name.Text, p.assignment(in))
	}
	return p.add(api.NodeInit, name.From, name.Text)
}

func (p *parser) declaredFunction() int {
	at := p.must("function")
	name := p.name()
	return p.add(api.NodeFun, at, name.Text, p.parameters(), p.block())
}

// inParens reads an expression in parentheses.
func (p *parser) inParens() int {
	p.must("(")
	e := p.expression(true)
	p.must(")")
	return e
}

func (p *parser) choice() int {
	at := p.must("if")
	kids := []int{p.inParens(), p.body()}
	if p.eat("else") {
		kids = append(kids, p.body())
	}
	return p.add(api.NodeIf, at, "", kids...)
}

func (p *parser) leave() int {
	word, text, kind := p.take(), "", api.NodeContinue
	if word.Text == "break" {
		kind = api.NodeBreak
	}
	if p.next().Kind == api.TokName && !p.next().Line {
		text = p.take().Text
	}
	p.end()
	return p.add(kind, word.From, text)
}

func (p *parser) answer() int {
	at := p.must("return")
	var kids []int
	if !p.is(";") && !p.endsUnsaid() {
		kids = append(kids, p.expression(true))
	}
	p.end()
	return p.add(api.NodeReturn, at, "", kids...)
}

func (p *parser) throw() int {
	at := p.must("throw")
	if p.next().Line {
		p.fail()
	}
	e := p.expression(true)
	p.end()
	return p.add(api.NodeThrow, at, "", e)
}

func (p *parser) try() int {
	at, name := p.must("try"), ""
	block, caught, finally := p.block(), 0, 0
	if p.eat("catch") {
		p.must("(")
		name = p.name().Text
		p.must(")")
		caught = p.block()
	} else if p.is("finally") {
		caught = p.none()
	} else {
		p.fail()
	}
	if p.eat("finally") {
		finally = p.block()
	} else {
		finally = p.none()
	}
	return p.add(api.NodeTry, at, name, block, caught, finally)
}

func (p *parser) choices() int {
	at := p.must("switch")
	kids, defaults := []int{p.inParens()}, 0
	p.must("{")
	for !p.eat("}") {
		if p.is("default") {
			defaults++
		}
		if defaults > 1 {
			p.fail()
		}
		kids = append(kids, p.clause())
	}
	return p.add(api.NodeSwitch, at, "", kids...)
}

// clause reads a case, or a default, with its statements.
func (p *parser) clause() int {
	kind, at, kids := api.NodeDefault, p.next().From, []int(nil)
	if p.eat("case") {
		kind, kids = api.NodeCase, append(kids, p.expression(true))
	} else {
		p.must("default")
	}
	p.must(":")
	for !p.is("case") && !p.is("default") && !p.is("}") {
		kids = append(kids, p.statement())
	}
	return p.add(kind, at, "", kids...)
}
