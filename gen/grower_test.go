package gen_test

import (
	"fmt"
	"math/rand"
	"slices"
	"strings"
)

// prelude is what grown scripts begin with: a loop's end that comes for sure, values that tell when they are asked, iterators of many sorts.
const prelude = `let left = 30;
function more() { return left-- > 0; }
function show(tag, v) { print(tag, typeof v); return v; }
function thing(tag, v) { return { valueOf() { print(tag, 'valueOf'); return v; }, toString() { print(tag, 'toString'); return 'k' + v; } }; }
function caught(e) { print('caught', typeof e === 'object' && e !== null && 'name' in e ? e.name : typeof e === 'object' ? 'object' : typeof e === 'function' ? 'function' : e); }
function each(tag, count, how) {
  let at = 0;
  const o = {
    [iterator]() { print(tag, 'open'); return how === 6 ? 1 : this; },
    next() { print(tag, 'next', at); if (how === 1 && at === 1) throw tag; if (how === 7 && at === 1) return 1; return { value: at, done: at++ >= count }; }
  };
  if (how === 2) o.return = function () { print(tag, 'return', this === o); return {}; };
  if (how === 3) o.return = () => { print(tag, 'throws'); throw tag + 'return'; };
  if (how === 4) o.return = () => { print(tag, 'answers'); return 1; };
  if (how === 5) o.return = 1;
  if (how === 8) return { [iterator]: o[iterator], next: o.next, get return() { print(tag, 'gets'); throw tag + 'get'; } };
  if (how === 9) return { next: 1, [iterator]() { return this; }, get a() { return 1; } };
  return o;
}
`

// grower grows sources as they come, of which most do not go wrong at once.
type grower struct {
	*rand.Rand
	tags   int
	jumps  bool             // it is jumps that matter: expressions are few and small
	scopes []map[string]int // the names of each scope that is open, innermost last
	flow                    // of the function that is written
}

// flow is what jumps may mean.
type flow struct {
	labels, loops []string // of all labels; of those of loops
	inLoop        bool
	inSwitch      bool
	inFunction    bool
}

func newGrower(seed int64, jumps bool) *grower {
	return &grower{Rand: rand.New(rand.NewSource(seed)), jumps: jumps}
}

func (g *grower) program(deep int) string {
	g.tags, g.scopes, g.flow = 0, nil, flow{}
	g.open("left", "more", "show", "thing", "caught", "each")
	var b strings.Builder
	b.WriteString(prelude)
	for range 2 + g.Intn(4) {
		first := g.pick("0", "1", "'s'", "[1, 2]", "{ a: 1 }", "x => x", "(...x) => x", "function (x) { this.a = x; }")
		b.WriteString("let " + g.fresh() + " = " + first + ";\n")
	}
	for range 2 + g.Intn(4) {
		if g.one(9) {
			b.WriteString(g.statement(deep) + "\n")
		} else {
			b.WriteString("try " + g.block(deep) + " catch (e) { caught(e); }\n")
		}
	}
	g.close()
	return b.String()
}

func (g *grower) open(names ...string) {
	s := make(map[string]int)
	for _, n := range names {
		s[n] = 1
	}
	g.scopes = append(g.scopes, s)
}

func (g *grower) close() { g.scopes = g.scopes[:len(g.scopes)-1] }

func (g *grower) pick(some ...string) string { return some[g.Intn(len(some))] }

func (g *grower) one(count int) bool { return g.Intn(count) == 0 }

func (g *grower) tag() string {
	g.tags++
	return fmt.Sprintf("'t%d'", g.tags)
}

// fresh declares a name that the innermost scope does not have yet.
func (g *grower) fresh() string {
	scope := g.scopes[len(g.scopes)-1]
	for i := 0; ; i++ {
		name := g.pick("a", "b", "c", "d", "f")
		if i > 6 {
			name = fmt.Sprintf("%s%d", name, g.Intn(1000))
		}
		if scope[name] == 0 {
			scope[name] = 1
			return name
		}
	}
}

// name is one that is declared somewhere about, but for some.
func (g *grower) name() string {
	if g.one(25) {
		return g.pick("a", "b", "c", "d", "f", "nowhere", "undefined")
	}
	scope := g.scopes[g.Intn(len(g.scopes))]
	var all []string
	for n := range scope {
		if len(n) < 4 {
			all = append(all, n)
		}
	}
	if len(all) == 0 {
		return g.pick("a", "b", "c")
	}
	slices.Sort(all)
	return g.pick(all...)
}

func (g *grower) block(deep int, names ...string) string {
	g.open(names...)
	defer g.close()
	return "{ " + g.statements(deep, 3) + " }"
}

func (g *grower) statements(deep, most int) string {
	var out []string
	for range 1 + g.Intn(most) {
		out = append(out, g.statement(deep))
	}
	return strings.Join(out, " ")
}

func (g *grower) statement(deep int) string {
	if deep <= 0 {
		return g.small()
	}
	switch g.Intn(9) {
	case 0:
		return g.declaration(deep-1) + ";"
	case 1:
		name := g.fresh()
		return "function " + name + g.function(deep-1)
	}
	return g.body(deep)
}

func (g *grower) declaration(deep int) string {
	var out []string
	word := g.pick("let", "let", "const")
	for range 1 + g.Intn(2) {
		if word == "let" && g.one(4) {
			out = append(out, g.fresh())
			continue
		}
		name := g.fresh()
		out = append(out, name+" = "+g.expr(deep))
	}
	return word + " " + strings.Join(out, ", ")
}

// function is the parameters and the body of a function.
func (g *grower) function(deep int) string {
	was := g.flow
	g.flow = flow{inFunction: true}
	defer func() { g.flow = was }()
	g.open()
	defer g.close()
	return g.params() + " { " + g.statements(deep, 3) + " }"
}

func (g *grower) params() string {
	var out []string
	for range g.Intn(3) {
		out = append(out, g.fresh())
	}
	if g.one(5) {
		out = append(out, "..."+g.fresh())
	}
	return "(" + strings.Join(out, ", ") + ")"
}

// body is a statement that declares nothing.
func (g *grower) body(deep int) string {
	if deep <= 0 {
		return g.small()
	}
	deep--
	switch g.Intn(12) {
	case 0:
		out := "if (" + g.expr(deep) + ") " + g.block(deep)
		if g.one(2) {
			out += " else " + g.body(deep)
		}
		return out
	case 1, 2, 3:
		return g.loop(deep, nil)
	case 4:
		return g.labelled(deep)
	case 5, 6, 7:
		return g.try(deep)
	case 8:
		return g.choices(deep)
	case 9:
		return g.block(deep)
	}
	return g.small()
}

// loop is one with labels ahead of it that are written already.
func (g *grower) loop(deep int, labels []string) string {
	was := g.flow
	defer func() { g.flow = was }()
	g.loops = append(slices.Clone(g.loops), labels...)
	inner := func() string {
		g.inLoop = true
		return g.bodyOrBlock(deep)
	}
	switch g.Intn(7) {
	case 0:
		return "while (more() && " + g.expr(deep) + ") " + inner()
	case 1:
		return "do " + inner() + " while (more() && " + g.expr(deep) + ");"
	case 2, 3:
		return g.loopFor(deep, inner)
	case 4:
		over := g.pick("{ a: 1, b: 2, 3: 4 }", "'xyz'", "[5, 6]", "null", g.name())
		return g.loopEach(deep, " in "+over, inner)
	}
	over := fmt.Sprintf("each(%s, %d, %d)", g.tag(), g.Intn(4), g.Intn(10))
	return g.loopEach(deep, " of "+g.pick(over, over, over, over, "[1, 'b', null]", "'pq'", g.name()), inner)
}

func (g *grower) loopFor(deep int, inner func() string) string {
	g.open()
	defer g.close()
	first := ""
	if !g.one(3) {
		i := g.fresh()
		first = "let " + i + " = 0"
		if g.one(2) {
			first += ", " + g.fresh() + " = " + g.assignment(deep)
		}
		if g.one(2) {
			return "for (" + first + "; more() && " + i + " < 4; " + i + g.pick("++", " += 1") + ") " + inner()
		}
	} else if g.one(3) {
		first = "const " + g.fresh() + " = " + g.assignment(deep)
	} else if g.one(2) {
		first = g.expr(deep)
	}
	head := "for (" + first + "; more() && " + g.expr(deep) + "; "
	if g.one(2) {
		head += g.expr(deep)
	}
	return head + ") " + inner()
}

// loopEach is a for in or of; what it is over may name what it declares.
func (g *grower) loopEach(deep int, over string, inner func() string) string {
	if g.one(4) {
		return "for (" + g.name() + over + ") " + inner()
	}
	g.open()
	defer g.close()
	head := g.pick("let ", "const ") + g.fresh()
	if g.one(8) {
		over = g.pick(" in ", " of ") + "[" + g.assignment(deep) + "]"
	}
	return "for (" + head + over + ") " + inner()
}

func (g *grower) bodyOrBlock(deep int) string {
	if g.one(2) {
		return g.block(deep)
	}
	return g.body(deep)
}

func (g *grower) labelled(deep int) string {
	label := fmt.Sprintf("l%d", g.Intn(1000))
	if slices.Contains(g.labels, label) {
		return g.small()
	}
	was := g.flow
	defer func() { g.flow = was }()
	g.labels = append(slices.Clone(g.labels), label)
	if g.one(2) {
		return label + ": " + g.loop(deep, []string{label})
	}
	return label + ": " + g.bodyOrBlock(deep)
}

func (g *grower) try(deep int) string {
	out := "try " + g.block(deep)
	if !g.one(3) {
		name := g.pick("e", "a", "b")
		out += " catch (" + name + ") "
		if g.one(2) {
			g.open(name)
			out += "{ caught(" + name + "); " + g.statements(deep, 2) + " }"
			g.close()
		} else {
			out += g.block(deep, name)
		}
		if g.one(2) {
			return out
		}
	}
	return out + " finally " + g.block(deep)
}

func (g *grower) choices(deep int) string {
	was := g.flow
	defer func() { g.flow = was }()
	g.inSwitch = true
	out := "switch (" + g.expr(deep) + ") { "
	g.open()
	defer g.close()
	other := g.Intn(5)
	for i := range g.Intn(4) {
		if i == other {
			out += "default: "
		} else {
			out += "case " + g.expr(deep) + ": "
		}
		if !g.one(4) {
			out += g.statements(deep, 2) + " "
		}
	}
	return out + "}"
}

// small is a statement without others in it.
func (g *grower) small() string {
	switch g.Intn(10) {
	case 0:
		if g.inLoop || g.inSwitch {
			return "break;"
		}
	case 1:
		if g.inLoop {
			return "continue;"
		}
	case 2:
		if len(g.labels) > 0 {
			return "break " + g.pick(g.labels...) + ";"
		}
	case 3:
		if len(g.loops) > 0 {
			return "continue " + g.pick(g.loops...) + ";"
		}
	case 4:
		if g.inFunction {
			return "return" + g.pick("", " "+g.expr(1)) + ";"
		}
	case 5:
		return "throw " + g.expr(1) + ";"
	case 6, 7:
		return "print(" + g.tag() + ", typeof " + g.unit(0) + ");"
	}
	return "void " + g.unit(1) + ";"
}

// expr is an expression, perhaps with commas.
func (g *grower) expr(deep int) string {
	if g.one(12) {
		return "(" + g.assignment(deep) + ", " + g.assignment(deep) + ")"
	}
	return g.assignment(deep)
}

func (g *grower) target(deep int) string {
	switch g.Intn(6) {
	case 0:
		return g.unit(deep) + ".a"
	case 1:
		return g.unit(deep) + "[" + g.expr(deep) + "]"
	}
	return g.name()
}

func (g *grower) assignment(deep int) string {
	if g.jumps && !g.one(20) {
		return g.pick("0", "1", "1", g.tag(), "show("+g.tag()+", "+g.name()+")", "(() => "+g.name()+")")
	}
	if deep <= 0 {
		return g.unit(0)
	}
	deep--
	switch g.Intn(16) {
	case 0, 1:
		return "(" + g.target(deep) + g.pick(" = ", " = ", " += ", " -= ", " **= ", " >>>= ") + g.assignment(deep) + ")"
	case 2:
		return g.pick("++", "--") + g.target(deep)
	case 3:
		return "(" + g.target(deep) + g.pick("++", "--") + ")"
	case 4:
		return g.binary(deep)
	case 5:
		return "(" + g.assignment(deep) + g.pick(" && ", " || ") + g.assignment(deep) + ")"
	case 6:
		return "(" + g.assignment(deep) + " ? " + g.assignment(deep) + " : " + g.assignment(deep) + ")"
	case 7:
		return g.arrow(deep)
	case 8:
		return "(function " + g.self(deep) + ")"
	case 9:
		return g.pick("typeof ", "! ", "- ", "void ", "~ ") + g.unit(deep)
	case 10:
		return "delete " + g.unit(deep) + g.pick(".a", "[0]", "['length']", "()")
	}
	return g.unit(deep)
}

// binary is two operands; of a name that is changed between, too.
func (g *grower) binary(deep int) string {
	sign := g.pick("+", "-", "*", "<", "<=", "===", "!=", "==", "&", "in", "instanceof", "%", "<<")
	if g.one(3) {
		name := g.name()
		return "(" + name + " " + sign + " (" + name + " = " + g.assignment(deep) + "))"
	}
	return "(" + g.unit(deep) + " " + sign + " " + g.unit(deep) + ")"
}

func (g *grower) arrow(deep int) string {
	was := g.flow
	g.flow = flow{inFunction: true}
	defer func() { g.flow = was }()
	g.open()
	defer g.close()
	params := g.params()
	if g.one(2) {
		return "(" + params + " => { " + g.statements(deep, 2) + " })"
	}
	return "(" + params + " => " + g.assignment(deep) + ")"
}

// self is a function expression with or without a name, from that on.
func (g *grower) self(deep int) string {
	name := ""
	if g.one(2) {
		g.open()
		defer g.close()
		name = g.fresh()
	}
	return name + g.function(deep)
}

func (g *grower) args(deep int) string {
	var out []string
	for range g.Intn(3) {
		out = append(out, g.assignment(deep))
		if g.one(6) {
			out = append(out, "..."+g.pick("[1, 2]", "'ab'", fmt.Sprintf("each(%s, 2, %d)", g.tag(), g.Intn(8)), g.name()))
		}
	}
	return strings.Join(out, ", ")
}

// unit is an expression that needs no parentheses about it.
func (g *grower) unit(deep int) string {
	if deep <= 0 {
		switch g.Intn(8) {
		case 0:
			return g.pick("(0)", "(1)", "(2)", "(7)", "'s'", "''", "true", "null", "this")
		case 1:
			return "show(" + g.tag() + ", " + g.name() + ")"
		}
		return g.name()
	}
	deep--
	switch g.Intn(12) {
	case 0:
		return "[" + g.args(deep) + "]"
	case 1:
		return g.object(deep)
	case 2, 3:
		return g.unit(deep) + "(" + g.args(deep) + ")"
	case 4:
		return "new (" + g.unit(deep) + ")(" + g.args(deep) + ")"
	case 5:
		out := g.unit(deep) + g.pick(".a", ".b", ".length", "[0]", "['a']", "["+g.expr(deep)+"]")
		if g.one(3) {
			out += "(" + g.args(deep) + ")"
		}
		return out
	case 6:
		return "`x${" + g.expr(deep) + "}" + g.pick("", "y") + "${" + g.unit(0) + "}`"
	case 7:
		return fmt.Sprintf("thing(%s, %d)", g.tag(), g.Intn(3))
	case 8:
		return "show(" + g.tag() + ", " + g.assignment(deep) + ")"
	case 9:
		return "(" + g.pick("()", g.pick("x", "a")) + " => " + g.unit(deep) + ")(" + g.args(deep) + ")"
	}
	return g.unit(0)
}

func (g *grower) object(deep int) string {
	var out []string
	for range g.Intn(3) {
		switch g.Intn(6) {
		case 0:
			out = append(out, "get a"+"() { "+g.inside(deep)+" }")
		case 1:
			out = append(out, "set a(b) { "+g.inside(deep)+" }")
		case 2:
			out = append(out, "["+g.assignment(deep)+"]: "+g.assignment(deep))
		case 3:
			out = append(out, "a"+g.function(deep))
		default:
			out = append(out, g.pick("a", "b", "0", "1.5", "'b'")+": "+g.assignment(deep))
		}
	}
	return "({ " + strings.Join(out, ", ") + " })"
}

// inside is statements of a getter or setter.
func (g *grower) inside(deep int) string {
	was := g.flow
	g.flow = flow{inFunction: true}
	defer func() { g.flow = was }()
	g.open("b")
	defer g.close()
	return g.statements(deep-1, 2)
}
