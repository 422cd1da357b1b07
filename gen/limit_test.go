package gen_test

import (
	"fmt"
	"math/rand"
	"strconv"
	"strings"
	"testing"

	"lintel/api"
	"lintel/check"
	"lintel/code"
	"lintel/gen"
	"lintel/tree"
)

// few is how many nodes a tree must have at least to be too much.
const few = 3500

// builder builds trees node by node.
type builder struct{ l []api.Node }

func (b *builder) add(kind int, text string, kids ...int) int {
	b.l = append(b.l, api.Node{Kind: kind, Text: text, Kids: kids})
	return len(b.l) - 1
}

func (b *builder) name() int { return b.add(api.NodeName, "g") }

func (b *builder) none() int { return b.add(api.NodeNone, "") }

func (b *builder) block(l ...int) int { return b.add(api.NodeBlock, "", l...) }

// expressions are ways to put an expression into another one, such that registers are wanted about it.
func expressions() []func(b *builder, in int) int {
	return []func(b *builder, in int) int{
		func(b *builder, in int) int { return b.add(api.NodeCall, "", b.name(), in) },
		func(b *builder, in int) int { return b.add(api.NodeCall, "", b.add(api.NodeDot, "a", b.name()), in) },
		func(b *builder, in int) int {
			return b.add(api.NodeCall, "", b.add(api.NodeIndex, "", b.name(), b.name()), in)
		},
		func(b *builder, in int) int { return b.add(api.NodeCall, "", in) },
		func(b *builder, in int) int { return b.add(api.NodeNew, "", b.name(), in) },
		func(b *builder, in int) int { return b.add(api.NodeBinary, "+", b.name(), in) },
		func(b *builder, in int) int { return b.add(api.NodeBinary, "+", in, b.name()) },
		func(b *builder, in int) int {
			return b.add(api.NodeAssign, "=", b.add(api.NodeIndex, "", b.name(), b.name()), in)
		},
		func(b *builder, in int) int {
			return b.add(api.NodeAssign, "+=", b.add(api.NodeIndex, "", b.name(), b.name()), in)
		},
		func(b *builder, in int) int { return b.add(api.NodeAssign, "+=", b.name(), in) },
		func(b *builder, in int) int {
			return b.add(api.NodeObject, "", b.add(api.NodeProp, "", b.add(api.NodeStr, ""), in))
		},
		func(b *builder, in int) int {
			return b.add(api.NodeObject, "", b.add(api.NodeProp, "", b.add(api.NodeComputed, "", in), b.name()))
		},
		func(b *builder, in int) int { return b.add(api.NodeArray, "", in) },
		func(b *builder, in int) int { return b.add(api.NodeArray, "", b.add(api.NodeSpread, "", in)) },
		func(b *builder, in int) int {
			return b.add(api.NodeTemplate, "", b.add(api.NodeStr, ""), b.name(), b.add(api.NodeStr, ""), in, b.add(api.NodeStr, ""))
		},
		func(b *builder, in int) int { return b.add(api.NodeIndex, "", b.name(), in) },
		func(b *builder, in int) int { return b.add(api.NodePost, "++", b.add(api.NodeIndex, "", b.name(), in)) },
		func(b *builder, in int) int { return b.add(api.NodeAnd, "", b.name(), in) },
		func(b *builder, in int) int { return b.add(api.NodeSeq, "", b.name(), in) },
	}
}

// statements are ways to put a statement into another one.
func statements() []func(b *builder, in int) int {
	declared := func(b *builder) int { return b.add(api.NodeLet, "", b.add(api.NodeInit, "x")) }
	return []func(b *builder, in int) int{
		func(b *builder, in int) int { return b.add(api.NodeForOf, "", b.name(), b.name(), in) },
		func(b *builder, in int) int { return b.add(api.NodeForOf, "", declared(b), b.name(), in) },
		func(b *builder, in int) int { return b.add(api.NodeForIn, "", b.name(), b.name(), in) },
		func(b *builder, in int) int { return b.add(api.NodeForIn, "", declared(b), b.name(), in) },
		func(b *builder, in int) int { return b.add(api.NodeFor, "", declared(b), b.none(), b.none(), in) },
		func(b *builder, in int) int { return b.add(api.NodeTry, "", b.block(in), b.none(), b.block()) },
		func(b *builder, in int) int { return b.add(api.NodeTry, "", b.block(), b.none(), b.block(in)) },
		func(b *builder, in int) int { return b.add(api.NodeTry, "e", b.block(), b.block(in), b.none()) },
		func(b *builder, in int) int { return b.add(api.NodeTry, "e", b.block(), b.block(in), b.block()) },
		func(b *builder, in int) int {
			return b.add(api.NodeSwitch, "", b.name(), b.add(api.NodeDefault, "", in))
		},
		func(b *builder, in int) int { return b.block(declared(b), in) },
	}
}

// wide is a tree of just fewer nodes than may be too much: a nest as deep as may be, and for the rest names of the function in which it is.
func wide(t *testing.T, taken bool, grow func(b *builder) int) []api.Node {
	t.Helper()
	b := &builder{}
	inner := grow(b)
	var inits, uses []int
	for len(b.l)+8 < few-1 {
		name := "a" + strconv.Itoa(len(inits))
		inits = append(inits, b.add(api.NodeInit, name))
		if taken {
			uses = append(uses, b.add(api.NodeName, name))
		}
	}
	first := b.add(api.NodeLet, "", inits...)
	body := b.add(api.NodeArrow, "", b.add(api.NodeParams, ""), b.add(api.NodeArray, "", uses...))
	b.add(api.NodeScript, "", first, inner, b.add(api.NodeExpr, "", body))
	if len(b.l) >= few || tree.Deep(b.l) > api.MaxDeep || tree.Deep(b.l) < api.MaxDeep-4 {
		t.Fatalf("%d nodes, %d deep", len(b.l), tree.Deep(b.l))
	}
	return b.l
}

// nest is ways put into one another, as deep as may be.
func nest(ways []func(b *builder, in int) int, statement bool) func(b *builder) int {
	return func(b *builder) int {
		in := b.name()
		if statement {
			in = b.add(api.NodeExpr, "", in)
		}
		for i := 0; tree.Deep(b.l) < api.MaxDeep-4; i++ { // for the script, the statement, and what a way may add
			in = ways[i%len(ways)](b, in)
		}
		if !statement {
			in = b.add(api.NodeExpr, "", in)
		}
		return in
	}
}

// P13.1, P13.3: trees of fewer than 3500 nodes are never too much, however many names, values and ways out are wanted at one time.
func TestFew(t *testing.T) {
	most := 0
	hold := func(about string, l []api.Node) {
		for _, f := range made(t, about, l).Fns {
			most = max(most, f.Regs)
		}
	}
	for _, taken := range []bool{false, true} {
		for i, way := range expressions() {
			hold(fmt.Sprint("expression ", i), wide(t, taken, nest([]func(*builder, int) int{way}, false)))
		}
		for i, way := range statements() {
			hold(fmt.Sprint("statement ", i), wide(t, taken, nest([]func(*builder, int) int{way}, true)))
		}
		g := rand.New(rand.NewSource(1))
		for range 20 {
			for i, ways := range [][]func(*builder, int) int{expressions(), statements()} {
				g.Shuffle(len(ways), func(a, b int) { ways[a], ways[b] = ways[b], ways[a] })
				hold("many", wide(t, taken, nest(ways, i == 1)))
			}
		}
	}
	if most < few-100 {
		t.Errorf("at most %d registers: nothing was wide", most)
	}
}

// P13.1: a single list of each kind, of nearly 3500 nodes.
func TestWide(t *testing.T) {
	list := func(count int, one, sep string) string { return strings.Repeat(one+sep, count-1) + one }
	var names []string
	for i := range 3480 {
		names = append(names, "a"+strconv.Itoa(i))
	}
	all := strings.Join(names, ", ")
	for about, src := range map[string]string{
		"lets":       "let " + all + ";",
		"parameters": "(" + all + ") => a0;",
		"rest":       "(" + all + ", ...b) => b;",
		"arguments":  "f(" + list(3480, "a", ",") + ");",
		"elements":   "[" + list(3480, "a", ",") + "];",
		"spreads":    "[" + list(1740, "...a", ",") + "];",
		"properties": "({" + list(1150, "a: 1", ",") + "});",
		"template":   "`" + strings.Repeat("${a}", 1740) + "`;",
		"commas":     list(3480, "a", ",") + ";",
		"cases":      "switch (a) {" + strings.Repeat("case a: ", 1740) + "}",
		"taken":      "(" + strings.Join(names[:1740], ", ") + ") => () => [" + strings.Join(names[:1739], ", ") + "];",
		"functions":  "{ " + strings.Repeat("(() => 1); ", 800) + " }",
		"statements": strings.Repeat("a;", 1740),
	} {
		l := parsed(t, src)
		if len(l) >= few {
			t.Fatalf("%s: %d nodes", about, len(l))
		}
		made(t, about, l)
	}
}

// refused asks for an error, and nothing beside it.
func refused(t *testing.T, about string, l []api.Node, wantAt int, want api.Errno) {
	t.Helper()
	if m, at, e := gen.Script(l); len(m.Fns) > 0 || at != wantAt || e != want {
		t.Errorf("%s: %d functions, %d, error %d, not %d, error %d", about, len(m.Fns), at, e, wantAt, want)
	}
}

// functions is a tree of so many functions, the script among them.
func functions(count int) []api.Node {
	b := &builder{}
	var all []int
	for range count - 1 {
		all = append(all, b.add(api.NodeExpr, "", b.add(api.NodeArrow, "", b.add(api.NodeParams, ""), b.add(api.NodeThis, ""))))
	}
	b.add(api.NodeScript, "", all...)
	return b.l
}

// P13.1: too many functions; the rules are looked at ahead of that.
func TestManyFunctions(t *testing.T) {
	if m := made(t, "functions", functions(api.MaxFns)); len(m.Fns) != api.MaxFns {
		t.Errorf("%d functions", len(m.Fns))
	}
	l := functions(api.MaxFns + 1)
	refused(t, "too many functions", l, 0, api.ErrGen)
	l[1] = api.Node{Kind: api.NodeName, Text: "arguments", At: 7}
	refused(t, "too many functions and a rule broken", l, 7, api.ErrEarly)
	l[1].At = -1
	refused(t, "too many functions and no tree", l, 0, api.ErrTree)
}

// P13.1: too many registers: parameters, names of one scope, values that are wanted at one time.
func TestManyRegisters(t *testing.T) {
	for count, want := range map[int]api.Errno{few: api.OK, api.MaxRegs: api.OK, api.MaxRegs + 1: api.ErrGen, 3 * api.MaxRegs: api.ErrGen} {
		b := &builder{}
		var params, inits []int
		for i := range count {
			params = append(params, b.add(api.NodeName, "a"+strconv.Itoa(i)))
		}
		f := b.add(api.NodeFun, "f", b.add(api.NodeParams, "", params...), b.block())
		b.add(api.NodeScript, "", f)
		_, at, e := gen.Script(b.l)
		if at != 0 || e != want {
			t.Errorf("%d parameters: %d, error %d, not %d", count, at, e, want)
		}
		b = &builder{}
		for i := range count {
			inits = append(inits, b.add(api.NodeInit, "a"+strconv.Itoa(i)))
		}
		b.add(api.NodeScript, "", b.add(api.NodeLet, "", inits...))
		if _, at, e := gen.Script(b.l); at != 0 || e != want {
			t.Errorf("%d names: %d, error %d, not %d", count, at, e, want)
		}
	}
	// Names of scopes that are apart share registers.
	made(t, "many blocks", repeated(parsed(t, "{ let a, b, c; () => a; }"), 30000))
	template := "`" + strings.Repeat("${a}", api.MaxRegs+1) + "`;"
	refused(t, "a long template", parsed(t, template), 0, api.ErrGen)
}

// repeated is the statements of a tree, as often as there is room for so many nodes.
func repeated(l []api.Node, most int) []api.Node {
	var out []api.Node
	var all []int
	last := len(l) - 1
	for len(out)+len(l) <= most {
		from := len(out)
		for _, node := range l {
			kids := make([]int, len(node.Kids))
			for i, k := range node.Kids {
				kids[i] = k + from
			}
			node.Kids = kids
			out = append(out, node)
		}
		all = append(all, out[from+last].Kids...)
		out = out[:from+last]
	}
	return append(out, api.Node{Kind: api.NodeScript, Kids: all})
}

// deepJumps is loops with labels within one another, each with a way out of all of them about it.
func deepJumps(deep int, head, tail string) string {
	out, jumps := "", ""
	for i := range deep {
		out += fmt.Sprintf("l%d: %s", i, head)
		jumps += fmt.Sprintf("break l%d; continue l%d; ", i, i)
	}
	return out + "{ " + jumps + "}" + strings.Repeat(tail, deep)
}

// P13.3: of trees with as many nodes as may be none is too long for bytes, but for what is too much anyway.
func TestLong(t *testing.T) {
	for _, src := range []string{
		"a[b]++;", "a.b += c.d;", "f(a, ...b);", "`a${a}b${b}c`;", "({ get [a]() {}, b: 1 });", "x => 1;", "switch (a) { case b: }", "for (let a, b; ; ) () => a + b;",
		"try { a; } catch (e) { } finally { }", "for (a of b) ;", "for (a of b) break;", "for (let a of b) () => a;", "() => { for (a of b) return; };",
		"switch (a) { case a: let a; a = a = a = () => a; }", "{ const a = 1; () => { a = 2; a++; }; }",
		deepJumps(70, "for (a of b) ", ""), deepJumps(35, "for (;;) { try { ", "} finally {} }"), deepJumps(40, "for (a of b) try { ", "} finally {}"),
		"() => {" + strings.Repeat("try { ", 70) + "return; " + strings.Repeat("} finally { } ", 70) + "};",
		"() => {" + strings.Repeat("try { return; } finally { ", 70) + "return; " + strings.Repeat("} ", 70) + "};",
		"() => { for (a of b) try { " + strings.Repeat("return; break; continue; ", 500) + "} finally { } };",
	} {
		t.Run(src[:min(len(src), 30)], func(t *testing.T) {
			t.Parallel()
			l := parsed(t, src)
			per := 0
			for _, node := range l {
				if node.Kind == api.NodeFunc || node.Kind == api.NodeArrow {
					per++
				}
			}
			most := api.MaxNodes
			if per > 0 {
				most = min(most, len(l)*(api.MaxFns/per-1))
			}
			made(t, src, repeated(l, most))
		})
	}
}

// P13.3: what closures take through many functions may be too long for bytes: no module is made that can't be written.
func TestManyCaptures(t *testing.T) {
	for _, count := range []int{100, 1500, 3000, 3900} {
		b := &builder{}
		var inits, all []int
		for i := range count {
			inits = append(inits, b.add(api.NodeInit, "a"+strconv.Itoa(i)))
		}
		all = append(all, b.add(api.NodeLet, "", inits...))
		for range 3 {
			var uses []int
			for i := range count {
				uses = append(uses, b.add(api.NodeName, "a"+strconv.Itoa(i)))
			}
			in := b.add(api.NodeArray, "", uses...)
			for range api.MaxDeep - 4 {
				in = b.add(api.NodeArrow, "", b.add(api.NodeParams, ""), in)
			}
			all = append(all, b.add(api.NodeExpr, "", in))
		}
		b.add(api.NodeScript, "", all...)
		m, _, e := gen.Script(b.l)
		if (e == api.ErrGen) != (count >= 3000) || e == api.ErrGen && len(m.Fns) > 0 {
			t.Errorf("%d names: error %d", count, e)
		}
		if e != api.OK {
			continue
		}
		if _, _, e := check.Check(m); e != api.OK {
			t.Errorf("%d names: error %d", count, e)
		}
		if _, e := code.Encode(m); e != api.OK {
			t.Errorf("%d names: no bytes: error %d", count, e)
		}
	}
}
