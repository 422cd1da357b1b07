package parse_test

import (
	"math/rand"
	"strconv"
	"strings"

	"lintel/api"
	"lintel/tree"
)

// made is a node that was written, as show.Lisp has it, and where it begins.
type made struct {
	lisp string
	at   int
}

// maker writes sources as they come, by the grammar's lines, and says which trees they are.
type maker struct {
	*rand.Rand
	src   strings.Builder
	line  bool // no end of a line may stand ahead of the next token
	front int  // what the next token may not begin: 1 an object, 2 a function either
	ends  int  // of the statement ahead: 1 an end is owed, 2 a semicolon would be taken as its own
}

// scriptAsItComes is a source, and its tree in parentheses.
func scriptAsItComes(r *rand.Rand, left int) (src, lisp string) {
	m := &maker{Rand: r}
	n := node(api.NodeScript, 0, "", m.statements(left, 3)...)
	if m.ends == 1 && m.Intn(2) == 0 {
		m.src.WriteString(";")
	}
	m.src.WriteString(m.pick("", " ", "\n", " // c", " /* c */"))
	return m.src.String(), n.lisp
}

// node is a node that begins at a place.
func node(kind, at int, text string, kids ...made) made {
	out := "(" + strconv.Itoa(kind)
	if text != "" {
		out += ` "` + text + `"`
	}
	return finished(out, at, kids)
}

// valued is a node with a value in place of a Text.
func valued(kind, at int, value string) made {
	return finished("("+strconv.Itoa(kind)+" "+value, at, nil)
}

func finished(out string, at int, kids []made) made {
	if at > 0 {
		out += " @" + strconv.Itoa(at)
	}
	for _, k := range kids {
		out += " " + k.lisp
	}
	return made{out + ")", at}
}

func (m *maker) pick(some ...string) string { return some[m.Intn(len(some))] }

func (m *maker) one(count int) bool { return m.Intn(count) == 0 }

// tok writes a token with something ahead of it, and answers its place.
func (m *maker) tok(text string) int {
	gap := m.pick(" ", " ", "\t", " /**/", " /* c */ ", " \u00a0")
	lines := []string{"\n", "\n", "\r\n", " // c\n", " /*\n*/", " \u2028", "\r"}
	switch {
	case m.ends == 1 && text != "}" && (m.one(2) || goesOnWith(text)), m.ends == 2 && text == ";":
		m.src.WriteString(";")
	case m.ends == 1 && text != "}" || !m.line && m.one(6):
		gap = m.pick(lines...)
	}
	m.line, m.front, m.ends = false, 0, 0
	m.src.WriteString(gap)
	at := m.src.Len()
	m.src.WriteString(text)
	return at
}

// goesOnWith says whether a token could go on with a statement.
func goesOnWith(text string) bool {
	return strings.Contains("( [ + - * / % , . < > = & | ^ ? : ; in instanceof", text) || text[0] == '`'
}

// toks writes several tokens, and answers the place of the first.
func (m *maker) toks(l ...string) int {
	at := m.tok(l[0])
	for _, s := range l[1:] {
		m.tok(s)
	}
	return at
}

func (m *maker) name() string { return m.pick("a", "b", "c", "of", "get", "set", "eval", "$1") }

// named writes a name as a node of that kind.
func (m *maker) named(kind int, kids ...made) made {
	text := m.name()
	return node(kind, m.tok(text), text, kids...)
}

// many writes some, with that between them.
func (m *maker) many(least, most int, between string, one func() made) []made {
	var out []made
	for range least + m.Intn(most-least+1) {
		if len(out) > 0 && between != "" {
			m.tok(between)
		}
		out = append(out, one())
	}
	return out
}

func (m *maker) expr(left int, in bool) made {
	if !m.one(8) {
		return m.assign(left, in)
	}
	kids := m.many(2, 3, ",", func() made { return m.assign(left-1, in) })
	return node(api.NodeSeq, kids[0].at, "", kids...)
}

func (m *maker) assign(left int, in bool) made {
	switch k := m.Intn(12); {
	case left > 0 && k == 0:
		return m.arrow(left-1, in)
	case left > 0 && k == 1:
		target := m.target(left - 1)
		some := tree.Operators(api.NodeAssign)
		o := some[m.Intn(len(some))]
		m.tok(o)
		return node(api.NodeAssign, target.at, o, target, m.assign(left-1, in))
	case left > 0 && k == 2:
		first := m.binary(left-1, 0, in)
		m.tok("?")
		then := m.assign(left-1, true)
		m.tok(":")
		return node(api.NodeCond, first.at, "", first, then, m.assign(left-1, in))
	}
	return m.binary(left, 0, in)
}

func (m *maker) arrow(left int, in bool) made {
	var params made
	if m.one(2) {
		name := m.named(api.NodeName)
		params = node(api.NodeParams, name.at, "", name)
	} else {
		params = m.params()
	}
	m.line = true
	m.tok("=>")
	if m.one(2) {
		return node(api.NodeArrow, params.at, "", params, m.block(left))
	}
	m.front = 1
	return node(api.NodeArrow, params.at, "", params, m.assign(left, in))
}

func (m *maker) params() made {
	at := m.tok("(")
	kids := m.many(0, 2, ",", func() made { return m.named(api.NodeName) })
	if m.one(3) {
		if len(kids) > 0 {
			m.tok(",")
		}
		at, text := m.tok("..."), m.name()
		m.tok(text)
		kids = append(kids, node(api.NodeRest, at, text))
	}
	m.tok(")")
	return node(api.NodeParams, at, "", kids...)
}

// binary writes operators from that level on, from the loosest on.
func (m *maker) binary(left, level int, in bool) made {
	levels := []string{"||", "&&", "|", "^", "&", "== != === !==", "< > <= >= instanceof in", "<< >> >>>", "+ -", "* / %"}
	if level == len(levels) {
		return m.power(left)
	}
	n := m.binary(left, level+1, in)
	for left > 0 && m.one(14) {
		o := m.pick(strings.Fields(levels[level])...)
		if o == "in" && !in {
			continue
		}
		m.tok(o)
		right := m.binary(left-1, level+1, in)
		switch o {
		case "||":
			n = node(api.NodeOr, n.at, "", n, right)
		case "&&":
			n = node(api.NodeAnd, n.at, "", n, right)
		default:
			n = node(api.NodeBinary, n.at, o, n, right)
		}
	}
	return n
}

func (m *maker) power(left int) made {
	if left <= 0 || !m.one(12) {
		return m.unary(left)
	}
	base := m.update(left - 1)
	m.tok("**")
	return node(api.NodeBinary, base.at, "**", base, m.power(left-1))
}

func (m *maker) unary(left int) made {
	if left <= 0 || !m.one(8) {
		return m.update(left)
	}
	o := m.pick(tree.Operators(api.NodeUnary)...)
	return node(api.NodeUnary, m.tok(o), o, m.unary(left-1))
}

func (m *maker) update(left int) made {
	o := m.pick("++", "--")
	switch k := m.Intn(16); {
	case left > 0 && k == 0:
		return node(api.NodePre, m.tok(o), o, m.target(left-1))
	case left > 0 && k == 1:
		target := m.target(left - 1)
		m.line = true
		m.tok(o)
		return node(api.NodePost, target.at, o, target)
	case left > 0 && k == 2:
		return m.newAlone(left - 1)
	}
	return m.member(left)
}

// target writes what may be assigned to, perhaps in parentheses.
func (m *maker) target(left int) made {
	switch m.Intn(4) {
	case 0:
		return m.access(left, m.member(left-1))
	case 1:
		m.tok("(")
		n := m.target(left - 1)
		m.tok(")")
		return n
	}
	return m.named(api.NodeName)
}

// access writes . or [ behind n.
func (m *maker) access(left int, n made) made {
	if m.one(2) {
		text := m.pick("a", "in", "new", "of", "let")
		m.toks(".", text)
		return node(api.NodeDot, n.at, text, n)
	}
	m.tok("[")
	e := m.expr(left-1, true)
	m.tok("]")
	return node(api.NodeIndex, n.at, "", n, e)
}

// newAlone writes a new without arguments.
func (m *maker) newAlone(left int) made {
	at := m.tok("new")
	if m.one(4) {
		return node(api.NodeNew, at, "", m.newAlone(left-1))
	}
	return node(api.NodeNew, at, "", m.callee(left-1))
}

// newCalled writes a new with arguments.
func (m *maker) newCalled(left int) made {
	at := m.tok("new")
	callee := m.callee(left - 1)
	return node(api.NodeNew, at, "", append([]made{callee}, m.args(left-1, "(", ")")...)...)
}

func (m *maker) callee(left int) made {
	n := m.primaryOrNew(left)
	for left > 0 && m.one(3) {
		n = m.access(left, n)
	}
	return n
}

func (m *maker) primaryOrNew(left int) made {
	if left > 0 && m.one(10) {
		return m.newCalled(left - 1)
	}
	return m.primary(left)
}

func (m *maker) member(left int) made {
	n := m.primaryOrNew(left)
	for left > 0 && m.one(4) {
		if m.one(2) {
			n = m.access(left, n)
		} else {
			n = node(api.NodeCall, n.at, "", append([]made{n}, m.args(left-1, "(", ")")...)...)
		}
	}
	return n
}

func (m *maker) args(left int, open, shut string) []made {
	m.tok(open)
	kids := m.many(0, 2, ",", func() made {
		if m.one(4) {
			return node(api.NodeSpread, m.tok("..."), "", m.assign(left, true))
		}
		return m.assign(left, true)
	})
	if open == "[" && len(kids) > 0 && m.one(3) {
		m.tok(",")
	}
	m.tok(shut)
	return kids
}

func (m *maker) primary(left int) made {
	most := 8
	if left > 0 {
		most = 14
	}
	switch k := m.Intn(most); {
	case k == 0:
		return m.num()
	case k == 1:
		return m.str()
	case k == 2:
		words := []string{"true", "false", "null", "this"}
		i := m.Intn(len(words))
		return node([]int{api.NodeTrue, api.NodeFalse, api.NodeNull, api.NodeThis}[i], m.tok(words[i]), "")
	case k == 9:
		m.tok("(")
		e := m.expr(left-1, true)
		m.tok(")")
		return e
	case k == 10 && m.front == 0:
		return m.object(left - 1)
	case k == 11 && m.front < 2:
		return m.function(left - 1)
	case k == 12:
		return m.template(left - 1)
	case k == 13:
		at := m.src.Len()
		kids := m.args(left-1, "[", "]")
		at += strings.IndexByte(m.src.String()[at:], '[')
		return node(api.NodeArray, at, "", kids...)
	}
	return m.named(api.NodeName)
}

func (m *maker) num() made {
	some := [][2]string{{"1", "1"}, {"0x1F", "31"}, {".5", "0.5"}, {"1e3", "1000"}, {"0b11", "3"}}
	n := some[m.Intn(len(some))]
	return valued(api.NodeNum, m.tok(n[0]), n[1])
}

func (m *maker) str() made {
	some := [][2]string{{`'a b'`, `"a b"`}, {`""`, `""`}, {`'\x41'`, `"A"`}, {`"\"'"`, `"\"'"`}, {"'\u20ac'", `"\u20ac"`}}
	s := some[m.Intn(len(some))]
	return valued(api.NodeStr, m.tok(s[0]), s[1])
}

func (m *maker) function(left int) made {
	at, text := m.tok("function"), ""
	if m.one(2) {
		text = m.name()
		m.tok(text)
	}
	return node(api.NodeFunc, at, text, m.params(), m.block(left))
}

func (m *maker) template(left int) made {
	at, open := 0, "`"
	kids := []made{}
	for range m.Intn(3) {
		piece := valued(api.NodeStr, m.tok(open+"x${"), `"x"`)
		kids = append(kids, piece, m.expr(left, true))
		open = "}"
	}
	kids = append(kids, valued(api.NodeStr, m.tok(open+"y`"), `"y"`))
	at = kids[0].at
	return node(api.NodeTemplate, at, "", kids...)
}

func (m *maker) object(left int) made {
	at := m.tok("{")
	kids := m.many(0, 3, ",", func() made { return m.property(left) })
	if len(kids) > 0 && m.one(3) {
		m.tok(",")
	}
	m.tok("}")
	return node(api.NodeObject, at, "", kids...)
}

func (m *maker) property(left int) made {
	switch m.Intn(6) {
	case 0:
		text := m.name()
		at := m.tok(text)
		return node(api.NodeProp, at, "", valued(api.NodeStr, at, `"`+text+`"`), node(api.NodeName, at, text))
	case 1:
		k := m.key(left)
		params := m.params()
		return node(api.NodeProp, k.at, "", k, node(api.NodeFunc, params.at, "", params, m.block(left)))
	case 2:
		at, k, open := m.tok("get"), m.key(left), m.tok("(")
		m.tok(")")
		params := node(api.NodeParams, open, "")
		return node(api.NodeGetter, at, "", k, node(api.NodeFunc, open, "", params, m.block(left)))
	case 3:
		at, k, open := m.tok("set"), m.key(left), m.tok("(")
		params := node(api.NodeParams, open, "", m.named(api.NodeName))
		m.tok(")")
		return node(api.NodeSetter, at, "", k, node(api.NodeFunc, open, "", params, m.block(left)))
	}
	k := m.key(left)
	m.tok(":")
	return node(api.NodeProp, k.at, "", k, m.assign(left, true))
}

func (m *maker) key(left int) made {
	switch m.Intn(4) {
	case 0:
		return m.num()
	case 1:
		return m.str()
	case 2:
		at := m.tok("[")
		e := m.assign(left, true)
		m.tok("]")
		return node(api.NodeComputed, at, "", e)
	}
	text := m.pick("a", "get", "set", "if", "of", "let")
	return valued(api.NodeStr, m.tok(text), `"`+text+`"`)
}
