package show_test

import (
	"slices"
	"strings"

	"lintel/api"
	"lintel/lex"
)

// grammar reads a source by the grammar of chapter 8, line by line as that has it; what it does not
// go on with it throws. It knows neither places nor limits.
type grammar struct {
	tokens []api.Token
	at     int
	l      []api.Node
}

// parsed is the tree of a source, and whether it has one.
func parsed(src string) (l []api.Node, ok bool) {
	tokens, _, e := lex.Scan(src)
	if e != api.OK {
		return nil, false
	}
	defer func() {
		if recover() != nil {
			l, ok = nil, false
		}
	}()
	g := &grammar{tokens: tokens}
	var kids []int
	for g.next().Kind != api.TokEnd {
		kids = append(kids, g.statement(false))
	}
	g.add(api.NodeScript, "", kids...)
	return g.l, true
}

func (g *grammar) next() api.Token { return g.tokens[g.at] }

// is says whether the next token is one of these signs and words.
func (g *grammar) is(some ...string) bool { return g.isAt(g.at, some...) }

func (g *grammar) isAt(at int, some ...string) bool {
	t := g.tokens[min(at, len(g.tokens)-1)]
	return (t.Kind == api.TokSign || t.Kind == api.TokWord) && slices.Contains(some, t.Text)
}

func (g *grammar) nameAt(at int) bool { return g.tokens[min(at, len(g.tokens)-1)].Kind == api.TokName }

func (g *grammar) need(ok bool) {
	if !ok {
		panic("no script")
	}
}

func (g *grammar) take() string {
	g.at++
	return g.tokens[g.at-1].Text
}

func (g *grammar) eat(sign string) bool {
	if g.is(sign) {
		g.at++
		return true
	}
	return false
}

func (g *grammar) must(signs ...string) {
	for _, s := range signs {
		g.need(g.eat(s))
	}
}

func (g *grammar) name() string {
	g.need(g.nameAt(g.at))
	return g.take()
}

func (g *grammar) add(kind int, text string, kids ...int) int {
	g.l = append(g.l, api.Node{Kind: kind, Text: text, Kids: kids})
	return len(g.l) - 1
}

func (g *grammar) str(s api.Str) int {
	n := g.add(api.NodeStr, "")
	g.l[n].Str = s
	return n
}

func (g *grammar) none() int { return g.add(api.NodeNone, "") }

func (g *grammar) end() {
	if !g.eat(";") {
		g.need(g.is("}") || g.next().Kind == api.TokEnd || g.next().Line)
	}
}

func (g *grammar) block() int {
	g.must("{")
	var kids []int
	for !g.eat("}") {
		kids = append(kids, g.statement(false))
	}
	return g.add(api.NodeBlock, "", kids...)
}

func (g *grammar) inParens() int {
	g.must("(")
	e := g.expression(true)
	g.must(")")
	return e
}

// statement reads one; body: none that is no body.
func (g *grammar) statement(body bool) int {
	g.need(!body || !g.is("let", "const", "function"))
	if g.nameAt(g.at) && g.isAt(g.at+1, ":") {
		text := g.take()
		g.must(":")
		return g.add(api.NodeLabel, text, g.statement(true))
	}
	if g.is("{") {
		return g.block()
	}
	if g.is("let", "const") {
		n := g.declaration(true)
		g.end()
		return n
	}
	if !g.is(";", "function", "if", "while", "do", "for", "break", "continue", "return", "throw", "try", "switch") {
		e := g.expression(true)
		g.end()
		return g.add(api.NodeExpr, "", e)
	}
	switch word := g.take(); word {
	case ";":
		return g.add(api.NodeEmpty, "")
	case "function":
		text := g.name()
		return g.add(api.NodeFun, text, g.parameters(), g.block())
	case "if":
		kids := []int{g.inParens(), g.statement(true)}
		if g.eat("else") {
			kids = append(kids, g.statement(true))
		}
		return g.add(api.NodeIf, "", kids...)
	case "while":
		return g.add(api.NodeWhile, "", g.inParens(), g.statement(true))
	case "do":
		s := g.statement(true)
		g.must("while")
		e := g.inParens()
		g.eat(";")
		return g.add(api.NodeDo, "", s, e)
	case "for":
		return g.loop()
	case "try":
		return g.attempt()
	case "switch":
		return g.cases()
	default:
		return g.leave(word)
	}
}

func (g *grammar) declaration(in bool) int {
	kind := map[string]int{"let": api.NodeLet, "const": api.NodeConst}[g.take()]
	var kids []int
	for len(kids) == 0 || g.eat(",") {
		text := g.name()
		if g.eat("=") {
			kids = append(kids, g.add(api.NodeInit, text, g.assignment(in)))
		} else {
			kids = append(kids, g.add(api.NodeInit, text))
		}
	}
	return g.add(kind, "", kids...)
}

func (g *grammar) leave(word string) int {
	kind := map[string]int{"break": api.NodeBreak, "continue": api.NodeContinue, "return": api.NodeReturn, "throw": api.NodeThrow}[word]
	text, kids := "", []int(nil)
	more := !g.next().Line && !g.is(";", "}") && g.next().Kind != api.TokEnd
	if kind == api.NodeThrow || kind == api.NodeReturn && more {
		g.need(more)
		kids = append(kids, g.expression(true))
	} else if more {
		text = g.name()
	}
	g.end()
	return g.add(kind, text, kids...)
}

func (g *grammar) attempt() int {
	text, kids := "", []int{g.block()}
	if g.eat("catch") {
		g.must("(")
		text = g.name()
		g.must(")")
		kids = append(kids, g.block())
	} else {
		kids = append(kids, g.none())
	}
	if g.eat("finally") {
		kids = append(kids, g.block())
	} else {
		g.need(text != "")
		kids = append(kids, g.none())
	}
	return g.add(api.NodeTry, text, kids...)
}

func (g *grammar) cases() int {
	kids := []int{g.inParens()}
	g.must("{")
	defaults := 0
	for !g.eat("}") {
		kind, some := api.NodeDefault, []int(nil)
		if g.eat("case") {
			kind, some = api.NodeCase, []int{g.expression(true)}
		} else {
			g.must("default")
			defaults++
		}
		g.must(":")
		for !g.is("case", "default", "}") {
			some = append(some, g.statement(false))
		}
		kids = append(kids, g.add(kind, "", some...))
	}
	g.need(defaults <= 1)
	return g.add(api.NodeSwitch, "", kids...)
}

// ofAt says whether in or of stands there.
func (g *grammar) ofAt(at int) bool {
	t := g.tokens[min(at, len(g.tokens)-1)]
	return t.Text == "of" && t.Kind == api.TokName || g.isAt(at, "in")
}

func (g *grammar) loop() int {
	g.must("(")
	first, let := 0, g.is("let", "const")
	if let && g.nameAt(g.at+1) && g.ofAt(g.at+2) || g.nameAt(g.at) && g.ofAt(g.at+1) {
		if let {
			kind := map[string]int{"let": api.NodeLet, "const": api.NodeConst}[g.take()]
			first = g.add(kind, "", g.add(api.NodeInit, g.name()))
		} else {
			first = g.add(api.NodeName, g.name())
		}
		kind, e := api.NodeForIn, 0
		if g.take() == "of" {
			kind, e = api.NodeForOf, g.assignment(true)
		} else {
			e = g.expression(true)
		}
		g.must(")")
		return g.add(kind, "", first, e, g.statement(true))
	}
	switch {
	case let:
		first = g.declaration(false)
	case g.is(";"):
		first = g.none()
	default:
		first = g.expression(false)
	}
	kids := []int{first}
	for _, sign := range []string{";", ")"} {
		g.must(";")
		if g.is(sign) {
			kids = append(kids, g.none())
		} else {
			kids = append(kids, g.expression(true))
		}
	}
	g.must(")")
	return g.add(api.NodeFor, "", append(kids, g.statement(true))...)
}

func (g *grammar) expression(in bool) int {
	kids := []int{g.assignment(in)}
	for g.eat(",") {
		kids = append(kids, g.assignment(in))
	}
	if len(kids) == 1 {
		return kids[0]
	}
	return g.add(api.NodeSeq, "", kids...)
}

func (g *grammar) target(n int) {
	g.need(slices.Contains([]int{api.NodeName, api.NodeDot, api.NodeIndex}, g.l[n].Kind))
}

func (g *grammar) assignment(in bool) int {
	if g.arrowAhead() {
		return g.arrow(in)
	}
	n := g.conditional(in)
	if !g.is(strings.Fields("= += -= *= /= %= **= <<= >>= >>>= &= |= ^=")...) {
		return n
	}
	g.target(n)
	text := g.take()
	return g.add(api.NodeAssign, text, n, g.assignment(in))
}

// arrowAhead says whether a name or parameters, and => behind them, come next.
func (g *grammar) arrowAhead() bool {
	at := g.at + 1
	if !g.nameAt(g.at) {
		if !g.is("(") {
			return false
		}
		for first := true; !g.isAt(at, ")"); first = false {
			if !first {
				if !g.isAt(at, ",") {
					return false
				}
				at++
			}
			rest := g.isAt(at, "...")
			if rest {
				at++
			}
			if !g.nameAt(at) || rest && !g.isAt(at+1, ")") {
				return false
			}
			at++
		}
		at++
	}
	return g.isAt(at, "=>") && !g.tokens[at].Line
}

func (g *grammar) arrow(in bool) int {
	params := 0
	if g.is("(") {
		params = g.parameters()
	} else {
		params = g.add(api.NodeParams, "", g.add(api.NodeName, g.name()))
	}
	g.must("=>")
	if g.is("{") {
		return g.add(api.NodeArrow, "", params, g.block())
	}
	return g.add(api.NodeArrow, "", params, g.assignment(in))
}

func (g *grammar) parameters() int {
	g.must("(")
	var kids []int
	for !g.is(")") {
		if len(kids) > 0 {
			g.must(",")
		}
		if g.eat("...") {
			kids = append(kids, g.add(api.NodeRest, g.name()))
			break
		}
		kids = append(kids, g.add(api.NodeName, g.name()))
	}
	g.must(")")
	return g.add(api.NodeParams, "", kids...)
}

func (g *grammar) conditional(in bool) int {
	n := g.binary(0, in)
	if !g.eat("?") {
		return n
	}
	then := g.assignment(true)
	g.must(":")
	return g.add(api.NodeCond, "", n, then, g.assignment(in))
}

func (g *grammar) binary(level int, in bool) int {
	levels := []string{"||", "&&", "|", "^", "&", "== != === !==", "< > <= >= instanceof in", "<< >> >>>", "+ -", "* / %"}
	if level == len(levels) {
		return g.power()
	}
	n := g.binary(level+1, in)
	for g.is(strings.Fields(levels[level])...) && (in || !g.is("in")) {
		o := g.take()
		kids := []int{n, g.binary(level+1, in)}
		switch o {
		case "||":
			n = g.add(api.NodeOr, "", kids...)
		case "&&":
			n = g.add(api.NodeAnd, "", kids...)
		default:
			n = g.add(api.NodeBinary, o, kids...)
		}
	}
	return n
}

func (g *grammar) power() int {
	if g.is(strings.Fields("delete void typeof + - ~ !")...) {
		n := g.unary()
		g.need(!g.is("**"))
		return n
	}
	n := g.unary()
	if g.eat("**") {
		return g.add(api.NodeBinary, "**", n, g.power())
	}
	return n
}

func (g *grammar) unary() int {
	switch {
	case g.is(strings.Fields("delete void typeof + - ~ !")...):
		text := g.take()
		return g.add(api.NodeUnary, text, g.unary())
	case g.is("++", "--"):
		text := g.take()
		n := g.unary()
		g.target(n)
		return g.add(api.NodePre, text, n)
	}
	n := g.member()
	if g.is("++", "--") && !g.next().Line {
		g.target(n)
		return g.add(api.NodePost, g.take(), n)
	}
	return n
}

func (g *grammar) member() int {
	n := g.primaryOrNew()
	for {
		switch {
		case g.is("("):
			n = g.add(api.NodeCall, "", append([]int{n}, g.arguments("(", ")")...)...)
		case g.is(".", "["):
			n = g.behind(n)
		default:
			return n
		}
	}
}

func (g *grammar) primaryOrNew() int {
	if !g.eat("new") {
		return g.primary()
	}
	callee := g.primaryOrNew()
	for g.is(".", "[") {
		callee = g.behind(callee)
	}
	kids := []int{callee}
	if g.is("(") {
		kids = append(kids, g.arguments("(", ")")...)
	}
	return g.add(api.NodeNew, "", kids...)
}

// behind reads what . or [ begins behind n.
func (g *grammar) behind(n int) int {
	if g.eat(".") {
		g.need(g.next().Kind == api.TokName || g.next().Kind == api.TokWord)
		return g.add(api.NodeDot, g.take(), n)
	}
	g.must("[")
	e := g.expression(true)
	g.must("]")
	return g.add(api.NodeIndex, "", n, e)
}

func (g *grammar) arguments(open, shut string) []int {
	g.must(open)
	var kids []int
	for !g.is(shut) {
		if g.eat("...") {
			kids = append(kids, g.add(api.NodeSpread, "", g.assignment(true)))
		} else {
			kids = append(kids, g.assignment(true))
		}
		if !g.is(shut) {
			g.must(",")
			g.need(open == "[" || !g.is(shut))
		}
	}
	g.must(shut)
	return kids
}

func (g *grammar) primary() int {
	switch t := g.next(); {
	case t.Kind == api.TokName:
		return g.add(api.NodeName, g.take())
	case t.Kind == api.TokNum:
		g.at++
		n := g.add(api.NodeNum, "")
		g.l[n].Num = t.Num
		return n
	case t.Kind == api.TokStr:
		g.at++
		return g.str(t.Str)
	case t.Kind == api.TokTemplate || t.Kind == api.TokHead:
		return g.template()
	case g.is("("):
		return g.inParens()
	case g.is("["):
		return g.add(api.NodeArray, "", g.arguments("[", "]")...)
	case g.is("{"):
		return g.object()
	case g.eat("function"):
		text := ""
		if g.nameAt(g.at) {
			text = g.take()
		}
		return g.add(api.NodeFunc, text, g.parameters(), g.block())
	}
	g.need(g.is("this", "null", "true", "false"))
	kinds := map[string]int{"this": api.NodeThis, "null": api.NodeNull, "true": api.NodeTrue, "false": api.NodeFalse}
	return g.add(kinds[g.take()], "")
}

func (g *grammar) template() int {
	var kids []int
	for {
		t := g.next()
		g.at++
		kids = append(kids, g.str(t.Str))
		if t.Kind == api.TokTemplate || t.Kind == api.TokTail {
			return g.add(api.NodeTemplate, "", kids...)
		}
		kids = append(kids, g.expression(true))
		g.need(g.next().Kind == api.TokMiddle || g.next().Kind == api.TokTail)
	}
}

func (g *grammar) object() int {
	g.must("{")
	var kids []int
	for !g.is("}") {
		kids = append(kids, g.property())
		if !g.is("}") {
			g.must(",")
		}
	}
	g.must("}")
	return g.add(api.NodeObject, "", kids...)
}

func (g *grammar) property() int {
	t := g.next()
	if t.Kind == api.TokName && (t.Text == "get" || t.Text == "set") && !g.isAt(g.at+1, ",", ":", "(", "}") {
		g.at++
		k := g.key()
		params := g.parameters()
		f := g.add(api.NodeFunc, "", params, g.block())
		some := g.l[params].Kids
		if t.Text == "get" {
			g.need(len(some) == 0)
			return g.add(api.NodeGetter, "", k, f)
		}
		g.need(len(some) == 1 && g.l[some[0]].Kind == api.NodeName)
		return g.add(api.NodeSetter, "", k, f)
	}
	k := g.key()
	switch {
	case g.eat(":"):
		return g.add(api.NodeProp, "", k, g.assignment(true))
	case g.is("("):
		return g.add(api.NodeProp, "", k, g.add(api.NodeFunc, "", g.parameters(), g.block()))
	}
	g.need(t.Kind == api.TokName)
	return g.add(api.NodeProp, "", k, g.add(api.NodeName, t.Text))
}

func (g *grammar) key() int {
	switch t := g.next(); t.Kind {
	case api.TokName, api.TokWord:
		g.at++
		return g.str(of(t.Text))
	case api.TokStr, api.TokNum:
		return g.primary()
	}
	g.must("[")
	e := g.assignment(true)
	g.must("]")
	return g.add(api.NodeComputed, "", e)
}
