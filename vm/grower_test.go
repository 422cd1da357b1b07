package vm_test

import (
	"fmt"
	"math/rand"
	"slices"
	"strings"
)

// prelude is what grown scripts begin with: loops that come to an end, a look at a value that may call its getters, things that tell when they
// are asked, iterators of many sorts.
const prelude = `let left = 40;
function more() { return left-- > 0; }
function tell(tag, v) {
  if (typeof v === 'object' && v !== null) {
    let keys = '';
    for (const k in v) keys += k + ' ';
    print(tag, v instanceof Error ? 'error' : 'object', keys, 'length' in v ? typeof v.length : '', typeof v.message, typeof v.constructor);
  } else if (typeof v === 'function') print(tag, v.length, 'prototype' in v);
  else print(tag, typeof v, typeof v === 'symbol' ? '' : v);
  return v;
}
function thing(tag, v) { return { valueOf() { print(tag, 'valueOf'); return v; }, toString() { print(tag, 'toString'); return typeof v === 'number' ? 'a' : v; } }; }
function caught(e) { print('caught', typeof e === 'object' && e !== null && e instanceof Error ? e.name : typeof e); }
function each(tag, count, how) {
  let at = 0;
  const o = {
    [iterator]() { print(tag, 'open'); return how === 6 ? 1 : this; },
    next() { print(tag, 'next', at); if (how === 1 && at === 1) throw tag; if (how === 7 && at === 1) return 1; return { value: at, done: at++ >= count }; }
  };
  if (how === 2) o.return = function () { print(tag, 'return', this === o); return {}; };
  if (how === 3) o.return = () => { print(tag, 'throws'); throw tag + 'return'; };
  if (how === 4) o.return = () => { print(tag, 'answers'); return 1; };
  if (how === 5) o.return = 1;
  if (how === 8) return { [iterator]: o[iterator], next: o.next, get return() { print(tag, 'gets'); throw tag + 'get'; } };
  if (how === 9) return { next: 1, [iterator]() { return this; }, get a() { return 1; } };
  return o;
}
`

// grower grows sources out of forms, in which a % and a letter is to be grown (see grow).
type grower struct {
	*rand.Rand
	tags   int
	scopes []map[string]int // the names of the scopes that are open
	flows  []flow           // of the functions
	loops  []flow           // those to go back to
}

// flow is which jumps may stand somewhere.
type flow struct {
	labels, again []string
	inLoop        bool
	inSwitch      bool
	inFunction    bool
}

func newGrower(seed int64) *grower { return &grower{Rand: rand.New(rand.NewSource(seed))} }

func (g *grower) program(deep int) string {
	g.tags, g.scopes, g.flows = 0, nil, []flow{{}}
	g.open("left", "more", "tell", "thing", "caught", "each")
	defer g.close()
	out := prelude
	for range 3 + g.Intn(3) {
		out += g.grow("let %d = %v;\n", 1)
	}
	for range 2 + g.Intn(4) {
		if g.Intn(10) == 0 {
			out += g.grow("%s\n", deep)
		} else {
			out += g.grow("try %b catch (e) { caught(e); }\n", deep)
		}
	}
	return out
}

func (g *grower) open(names ...string) {
	s := make(map[string]int)
	for _, n := range names {
		s[n] = 1
	}
	g.scopes = append(g.scopes, s)
}

func (g *grower) close() { g.scopes = g.scopes[:len(g.scopes)-1] }

func (g *grower) pick(l ...string) string { return l[g.Intn(len(l))] }

func (g *grower) flow() *flow { return &g.flows[len(g.flows)-1] }

// fresh declares a name that the innermost scope has not.
func (g *grower) fresh() string {
	scope := g.scopes[len(g.scopes)-1]
	for i := 0; ; i++ {
		name := g.pick("a", "b", "c", "d", "f")
		if i > 6 {
			name = fmt.Sprintf("%s%d", name, g.Intn(1000))
		}
		if scope[name] == 0 {
			scope[name] = 1
			return name
		}
	}
}

// name is one that is declared in some scope; if that has none, one of those that begin the script.
func (g *grower) name() string {
	all := namesOf(g.scopes[g.Intn(len(g.scopes))])
	if len(all) == 0 {
		all = namesOf(g.scopes[0])
	}
	return g.pick(all...)
}

// namesOf is the names of a scope that grown code may change.
func namesOf(scope map[string]int) []string {
	var all []string
	for n := range scope {
		if len(n) < 4 {
			all = append(all, n)
		}
	}
	slices.Sort(all)
	return all
}

// grow puts what is grown in the place of a form's marks.
func (g *grower) grow(form string, deep int) string {
	var out strings.Builder
	for {
		before, after, is := strings.Cut(form, "%")
		out.WriteString(before)
		if !is {
			return out.String()
		}
		out.WriteString(g.part(after[0], deep))
		form = after[1:]
	}
}

func (g *grower) part(mark byte, deep int) string {
	switch mark {
	case '{': // a scope
		g.open()
	case '}':
		g.close()
	case '(': // a function
		g.flows = append(g.flows, flow{inFunction: true})
	case ')':
		g.flows = g.flows[:len(g.flows)-1]
	case '[': // a switch
		g.loops = append(g.loops, *g.flow())
		g.flow().inSwitch = true
	case ']':
		*g.flow() = g.loops[len(g.loops)-1]
		g.loops = g.loops[:len(g.loops)-1]
	case 'd':
		return g.fresh()
	case 'n':
		return g.name()
	case 'g':
		g.tags++
		return fmt.Sprintf("'t%d'", g.tags)
	case 'h':
		return fmt.Sprint(g.Intn(10))
	case 'l': // a loop's body
		return g.body(deep, "")
	case 's':
		return g.statement(deep)
	case 'b':
		return g.grow(g.pick("{%{ %s %}}", "{%{ %s %s %}}", "{%{ %s %s %s %}}"), deep)
	default:
		return g.value(mark, deep)
	}
	return ""
}

// body is a loop's body, of a loop with a label or none.
func (g *grower) body(deep int, label string) string {
	was := *g.flow()
	was.labels, was.again = slices.Clone(was.labels), slices.Clone(was.again)
	f := g.flow()
	f.inLoop = true
	if label != "" {
		f.labels, f.again = append(f.labels, label), append(f.again, label)
	}
	out := g.grow("%b", deep)
	*g.flow() = was
	return out
}

func (g *grower) statement(deep int) string {
	if deep <= 0 {
		return g.small()
	}
	deep--
	switch g.Intn(8) {
	case 0:
		return g.grow(g.pick("let %d = %e;", "const %d = %e;", "let %d;", "let %d = %e, %d = %e;", "function %d(%{%(%p) { %s %s }%)%}"), deep)
	case 1:
		return g.labelled(deep)
	case 2, 3:
		return g.grow(g.loop(), deep)
	case 4, 5:
		return g.grow(g.pick("try %b catch (%{%d) { caught(%n); %s }%}", "try %b catch (%{%d) { %s %s }%}", "try %b finally %b", "try %b catch (%{%d) { %s }%} finally %b"), deep)
	case 6:
		return g.grow(g.pick("if (%e) %b", "if (%e) %b else %b", "%b", "switch (%e) {%{%[ case %e: %s case %e: %s %s default: %s %]%}}", "switch (%e) {%{%[ default: %s case %e: %s case %v: %s %]%}}"), deep)
	}
	return g.small()
}

func (g *grower) loop() string {
	return g.pick(
		"while (more() && %e) %l",
		"do %l while (more() && %e);",
		"for (%{let %d = 0; more() && %e; %e) %l%}",
		"for (%{let %d = 0, %d = () => %n; more() && %n < 4; %n++) %l%}",
		"for (%{const %d = %e; more() && %e; ) %l%}",
		"for (%e; more() && %e; %e) %l",
		"for (%{const %d in %i) %l%}",
		"for (%n in %e) %l",
		"for (%{let %d of %o) %l%}",
		"for (%{const %d of %o) %l%}",
		"for (%n of %o) %l",
	)
}

func (g *grower) labelled(deep int) string {
	label := fmt.Sprintf("l%d", g.Intn(1000))
	if slices.Contains(g.flow().labels, label) {
		return g.small()
	}
	switch g.Intn(3) {
	case 0:
		was := *g.flow()
		g.flow().labels = append(slices.Clone(was.labels), label)
		out := label + ": " + g.grow("%b", deep)
		*g.flow() = was
		return out
	case 1:
		return label + ": " + g.grow("while (more() && %e) ", deep) + g.body(deep, label)
	}
	g.open()
	defer g.close()
	return label + ": " + g.grow("for (const %d of %o) ", deep) + g.body(deep, label)
}

// small is a statement without others in it.
func (g *grower) small() string {
	f := g.flow()
	switch g.Intn(12) {
	case 0:
		if f.inLoop || f.inSwitch {
			return "break;"
		}
	case 1:
		if f.inLoop {
			return "continue;"
		}
	case 2:
		if len(f.labels) > 0 {
			return "break " + g.pick(f.labels...) + ";"
		}
	case 3:
		if len(f.again) > 0 {
			return "continue " + g.pick(f.again...) + ";"
		}
	case 4:
		if f.inFunction {
			return g.grow(g.pick("return;", "return %u;"), 1)
		}
	case 5:
		return g.grow(g.pick("throw %u;", "throw new %K(%v);"), 1)
	case 6, 7, 8:
		return g.grow("tell(%g, %u);", 0)
	case 9:
		return g.grow("%t = %u;", 1)
	}
	return g.grow("%u;", 1)
}

// value is an expression: e any (in parentheses, where it needs them), u one that needs none, v one without names, t a target, k a key, o what is
// iterated, i what is enumerated, a arguments, p parameters, m a part of an object, w a property's name, K an error's kind.
func (g *grower) value(mark byte, deep int) string {
	switch mark {
	case 'v':
		return g.pick("0", "1", "2", "-1", "2.5", "NaN", "''", "'a'", "'ab'", "'1'", "'\\u{1F600}x'", "true", "false", "null", "undefined", "iterator", "[1, 2]", "({ a: 1, 1: 2 })", "(x => x)", "(function (x) { this.a = x; })")
	case 't':
		if deep <= 0 {
			return g.name()
		}
		return g.grow(g.pick("%n", "%n", "%u.%w", "%u[%k]"), deep-1)
	case 'k':
		if deep <= 0 {
			return g.pick("'a'", "'b'", "0", "1", "'length'", "iterator", "7", "typeof left")
		}
		return g.grow("%e", deep)
	case 'w':
		return g.pick("a", "a", "b", "length", "constructor", "prototype", "message", "next", "return", "valueOf", "toString", "values", "value", "done")
	case 'o':
		return g.grow(g.pick("each(%g, 3, %h)", "each(%g, 2, %h)", "each(%g, 2, 2)", "[%a]", "'p\\u{1F600}q'", "%n", "[1, 2].values()", "{ [iterator]: %u, next: %u }", "{ length: 2, 0: %u, [iterator]: [].values }"), deep-1)
	case 'i':
		return g.grow(g.pick("{ a: 1, b: 2, 1: 3 }", "'xyz'", "[5, 6]", "null", "%n", "%u", "new (%u)(%u)"), deep-1)
	case 'K':
		return g.pick("Error", "TypeError", "ReferenceError", "RangeError", "SyntaxError")
	case 'a':
		return g.grow(g.pick("", "%e", "%e, %e", "%e, ...%o", "...%o"), deep-1)
	case 'p':
		return g.grow(g.pick("", "%d", "%d, %d", "%d, ...%d", "...%d"), deep)
	case 'm':
		return g.grow(g.pick("a: %e", "b: %e", "%w: %e", "1: %e", "[%k]: %e", "get %w() {%{%( %s return %e; %)%}}", "set %w(%{%(%d) { %s }%)%}", "%w(%{%(%p) { %s return %e; }%)%}", "length: %v"), deep-1)
	case 'u':
		if deep > 0 {
			return g.unit(deep - 1)
		}
		return g.grow(g.pick("%n", "%n", "%n", "(%v)", "this", "tell(%g, %n)"), 0)
	}
	if deep <= 0 {
		return g.grow("%u", 0)
	}
	return g.expr(deep - 1)
}

func (g *grower) unit(deep int) string {
	return g.grow(g.pick(
		"%n", "%n", "(%v)", "%u.%w", "%u.%w", "%u[%e]", "%u(%a)", "%u.%w(%a)", "%u[%k](%a)", "new (%u)(%a)", "[%a]", "({ %m, %m })", "({ %m })",
		"`x${%e}y${%e}`", "thing(%g, %e)", "each(%g, 1, %h)", "new %K(%e)", "tell(%g, %e)", "(%{%(%d => %e%)%})(%a)", "[%a].values()",
	), deep)
}

func (g *grower) expr(deep int) string {
	return g.grow(g.pick(
		"%u", "%u", "%u", "%v", "(%t = %e)", "(%t += %e)", "(%t -= %e)", "(%t **= %e)", "(%t >>>= %e)", "%t++", "--%t", "(%e, %e)", "(%e ? %e : %e)", "(%e && %e)", "(%e || %e)",
		"(%u + %u)", "(%u - %u)", "(%u < %u)", "(%u >= %u)", "(%u == %u)", "(%u != %u)", "(%u === %u)", "(%u in %u)", "(%u instanceof %u)", "(%u & %u)", "(%n + (%n = %e))",
		"typeof %u", "!%u", "-%u", "+%u", "~%u", "void %u", "delete %u.%w", "delete %u[%k]", "delete tell(%g, %e)",
		"(%{%((%p) => %e%)%})", "(%{%((%p) => { %s %s }%)%})", "(function (%{%(%p) { %s return %e; }%)%})", "(%{function %d(%{%(%p) { %s return %n; }%)%}%})",
	), deep)
}
