package show

import "lintel/api"

// statements writes one behind the other.
func (w *writer) statements(kids []int) {
	for _, k := range kids {
		w.statement(w.nodes[k])
	}
}

func (w *writer) block(n api.Node) {
	w.token("{")
	w.statements(n.Kids)
	w.token("}")
}

func (w *writer) statement(n api.Node) {
	switch n.Kind {
	case api.NodeBlock:
		w.block(n)
	case api.NodeLet, api.NodeConst:
		w.declaration(n, false)
		w.ends = owes
	case api.NodeEmpty:
		w.token(";")
	case api.NodeExpr:
		w.expr(w.kid(n, 0), spot{front: noFunction})
		w.ends = owes
	case api.NodeBreak, api.NodeContinue, api.NodeReturn, api.NodeThrow:
		w.leave(n)
		w.ends = owes
	case api.NodeIf:
		w.choice(n)
	case api.NodeTry:
		w.try(n)
	case api.NodeSwitch:
		w.cases(n)
	case api.NodeLabel:
		w.tokens(n.Text, ":")
		w.statement(w.kid(n, 0))
	case api.NodeFun:
		w.token("function")
		w.function(n)
	default:
		w.loop(n)
	}
}

// declaration writes a let or const without its end.
func (w *writer) declaration(n api.Node, noIn bool) {
	if n.Kind == api.NodeLet {
		w.token("let")
	} else {
		w.token("const")
	}
	for i := range n.Kids {
		if i > 0 {
			w.token(",")
		}
		init := w.kid(n, i)
		w.token(init.Text)
		if len(init.Kids) > 0 {
			w.token("=")
			w.expr(w.kid(init, 0), spot{least: assignment, noIn: noIn})
		}
	}
}

// leave writes a break, continue, return or throw without its end.
func (w *writer) leave(n api.Node) {
	switch n.Kind {
	case api.NodeBreak:
		w.token("break")
	case api.NodeContinue:
		w.token("continue")
	case api.NodeReturn:
		w.token("return")
	case api.NodeThrow:
		w.token("throw")
	}
	if n.Text != "" {
		w.token(n.Text)
	}
	if len(n.Kids) > 0 {
		w.expr(w.kid(n, 0), spot{})
	}
}

// head writes a word and an expression in parentheses behind it.
func (w *writer) head(word string, n api.Node) {
	w.tokens(word, "(")
	w.expr(n, spot{})
	w.token(")")
}

func (w *writer) choice(n api.Node) {
	w.head("if", w.kid(n, 0))
	w.statement(w.kid(n, 1))
	if len(n.Kids) > 2 {
		w.token("else")
		w.statement(w.kid(n, 2))
	}
}

func (w *writer) try(n api.Node) {
	w.token("try")
	w.block(w.kid(n, 0))
	if caught := w.kid(n, 1); caught.Kind == api.NodeBlock {
		w.tokens("catch", "(", n.Text, ")")
		w.block(caught)
	}
	if finally := w.kid(n, 2); finally.Kind == api.NodeBlock {
		w.token("finally")
		w.block(finally)
	}
}

func (w *writer) cases(n api.Node) {
	w.head("switch", w.kid(n, 0))
	w.token("{")
	for i := range n.Kids[1:] {
		clause := w.kid(n, 1+i)
		statements := clause.Kids
		if clause.Kind == api.NodeCase {
			w.token("case")
			w.expr(w.kid(clause, 0), spot{})
			statements = statements[1:]
		} else {
			w.token("default")
		}
		w.token(":")
		w.statements(statements)
	}
	w.token("}")
}

func (w *writer) loop(n api.Node) {
	switch n.Kind {
	case api.NodeWhile:
		w.head("while", w.kid(n, 0))
		w.statement(w.kid(n, 1))
	case api.NodeDo:
		w.token("do")
		w.statement(w.kid(n, 0))
		w.head("while", w.kid(n, 1))
		w.ends = takes
	case api.NodeFor:
		w.counted(n)
	case api.NodeForIn:
		w.each(n, "in", sequence)
	case api.NodeForOf:
		w.each(n, "of", assignment)
	}
}

// counted writes a for with two semicolons.
func (w *writer) counted(n api.Node) {
	w.tokens("for", "(")
	switch first := w.kid(n, 0); first.Kind {
	case api.NodeLet, api.NodeConst:
		w.declaration(first, true)
	default:
		w.perhaps(first, spot{noIn: true})
	}
	w.token(";")
	w.perhaps(w.kid(n, 1), spot{})
	w.token(";")
	w.perhaps(w.kid(n, 2), spot{})
	w.token(")")
	w.statement(w.kid(n, 3))
}

// perhaps writes an expression or, of a NodeNone, nothing.
func (w *writer) perhaps(n api.Node, s spot) {
	if n.Kind != api.NodeNone {
		w.expr(n, s)
	}
}

// each writes a for with in or of, behind which nothing looser than least may stand.
func (w *writer) each(n api.Node, word string, least int) {
	w.tokens("for", "(")
	if first := w.kid(n, 0); first.Kind == api.NodeName {
		w.token(first.Text)
	} else {
		w.declaration(first, true)
	}
	w.token(word)
	w.expr(w.kid(n, 1), spot{least: least})
	w.token(")")
	w.statement(w.kid(n, 2))
}
