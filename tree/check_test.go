package tree_test

import (
	"math"
	"math/rand"
	"slices"
	"strings"
	"testing"

	"lintel/api"
	"lintel/tree"
)

// bud is a node with its kids in place of their numbers.
type bud struct {
	node api.Node
	kids []bud
}

func leaf(kind int) bud                     { return bud{node: api.Node{Kind: kind}} }
func with(kind int, kids ...bud) bud        { return bud{api.Node{Kind: kind}, kids} }
func text(kind int, s string, k ...bud) bud { return bud{api.Node{Kind: kind, Text: s}, k} }
func num(x float64) bud                     { return bud{node: api.Node{Kind: api.NodeNum, Num: x}} }
func str(s api.Str) bud                     { return bud{node: api.Node{Kind: api.NodeStr, Str: s}} }

// laid puts buds behind l, kids first, and answers the last one's number.
func laid(l []api.Node, b bud) ([]api.Node, int) {
	n := b.node
	for _, k := range b.kids {
		var at int
		l, at = laid(l, k)
		n.Kids = append(n.Kids, at)
	}
	return append(l, n), len(l)
}

// script is the nodes of a script of these statements.
func script(statements ...bud) []api.Node {
	l, _ := laid(nil, with(api.NodeScript, statements...))
	return l
}

// Some buds that fit.
var (
	one     = num(1)
	name    = text(api.NodeName, "a")
	block   = leaf(api.NodeBlock)
	none    = leaf(api.NodeNone)
	params  = leaf(api.NodeParams)
	empty   = leaf(api.NodeEmpty)
	expr    = with(api.NodeExpr, one)
	unset   = text(api.NodeInit, "a")
	let     = with(api.NodeLet, unset)
	fun     = text(api.NodeFun, "f", params, block)
	noParam = with(api.NodeFunc, params, block)
)

// in puts a node that is no statement where it may stand.
func in(b bud) bud {
	switch b.node.Kind {
	case api.NodeProp, api.NodeGetter, api.NodeSetter:
		return with(api.NodeExpr, with(api.NodeObject, b))
	case api.NodeParams:
		return text(api.NodeFun, "f", b, block)
	case api.NodeRest:
		return in(with(api.NodeParams, b))
	case api.NodeSpread:
		return with(api.NodeExpr, with(api.NodeArray, b))
	case api.NodeInit:
		return with(api.NodeLet, b)
	case api.NodeCase, api.NodeDefault:
		return with(api.NodeSwitch, one, b)
	case api.NodeComputed:
		return in(with(api.NodeProp, b, one))
	}
	if b.node.Kind >= api.NodeBlock && b.node.Kind != api.NodeNone {
		return b
	}
	return with(api.NodeExpr, b)
}

// P6.1, P6.2: the document's example.
func TestExample(t *testing.T) {
	l := []api.Node{{Kind: api.NodeNum, Num: 1}, {Kind: api.NodeExpr, Kids: []int{0}}, {Kind: api.NodeScript, Kids: []int{1}}}
	if at, e := tree.Check(l); at != 0 || e != api.OK || tree.Deep(l) != 3 {
		t.Errorf("%d, %d, deep %d", at, e, tree.Deep(l))
	}
	if at, e := tree.Check(l[:2]); at != 1 || e != api.ErrTree {
		t.Errorf("without the script: %d, %d", at, e)
	}
}

// P6.1: what each row of the table lets stand.
func TestRowsTake(t *testing.T) {
	param := with(api.NodeParams, name)
	for _, b := range []bud{
		num(0), num(1.5), num(5e-324), num(math.MaxFloat64), num(math.Inf(1)),
		str(""), str("\x00a"), str("\xd8\x00"), str("\x00ab"),
		leaf(api.NodeTrue), leaf(api.NodeFalse), leaf(api.NodeNull), leaf(api.NodeThis),
		name, text(api.NodeName, "of"), text(api.NodeName, "eval"), text(api.NodeName, "$_9"),
		leaf(api.NodeArray), with(api.NodeArray, one, with(api.NodeSpread, name), one),
		leaf(api.NodeObject), with(api.NodeObject, with(api.NodeProp, str("\x00a"), one), with(api.NodeGetter, one, noParam),
			with(api.NodeSetter, with(api.NodeComputed, name), with(api.NodeFunc, param, block))),
		with(api.NodeGetter, str(""), text(api.NodeFunc, "f", params, block)),
		noParam, text(api.NodeFunc, "f", param, block),
		with(api.NodeArrow, params, one), with(api.NodeArrow, param, block),
		with(api.NodeCall, name), with(api.NodeCall, name, one, with(api.NodeSpread, name), one), with(api.NodeNew, name), with(api.NodeNew, name, one),
		text(api.NodeDot, "a", name), text(api.NodeDot, "let", name), text(api.NodeDot, "null", name),
		with(api.NodeIndex, name, one), with(api.NodeAnd, one, one), with(api.NodeOr, one, one), with(api.NodeCond, one, one, one),
		text(api.NodePre, "++", name), text(api.NodePost, "--", text(api.NodeDot, "a", one)), text(api.NodePost, "++", with(api.NodeIndex, one, one)),
		text(api.NodeAssign, "=", name, one), text(api.NodeAssign, ">>>=", with(api.NodeIndex, one, one), one),
		with(api.NodeSeq, one, one), with(api.NodeSeq, one, one, one, with(api.NodeSeq, one, one)),
		with(api.NodeTemplate, str("")), with(api.NodeTemplate, str(""), one, str("")), with(api.NodeTemplate, str(""), str(""), str(""), one, str("")),
		params, param, with(api.NodeParams, name, name, name), text(api.NodeRest, "r"), with(api.NodeParams, name, text(api.NodeRest, "a")),
		block, with(api.NodeBlock, let, fun, empty, expr), let, with(api.NodeConst, unset, text(api.NodeInit, "b", one)), empty, expr,
		with(api.NodeIf, one, empty), with(api.NodeIf, one, block, with(api.NodeIf, one, expr)),
		with(api.NodeFor, none, none, none, empty), with(api.NodeFor, let, one, one, block), with(api.NodeFor, one, none, one, empty),
		with(api.NodeFor, with(api.NodeConst, text(api.NodeInit, "a", one), unset), one, none, expr),
		with(api.NodeForIn, let, one, empty), with(api.NodeForIn, name, one, empty), with(api.NodeForOf, with(api.NodeConst, unset), one, block),
		with(api.NodeForOf, name, with(api.NodeSeq, one, one), block),
		with(api.NodeWhile, one, empty), with(api.NodeDo, empty, one), leaf(api.NodeBreak), text(api.NodeBreak, "a"), leaf(api.NodeContinue),
		text(api.NodeContinue, "a"), leaf(api.NodeReturn), with(api.NodeReturn, one), with(api.NodeThrow, one),
		text(api.NodeTry, "e", block, block, none), text(api.NodeTry, "e", block, block, block), with(api.NodeTry, block, none, block),
		with(api.NodeSwitch, one), leaf(api.NodeDefault), with(api.NodeCase, one), with(api.NodeCase, one, let, fun), with(api.NodeDefault, let, fun),
		with(api.NodeSwitch, one, with(api.NodeCase, one), leaf(api.NodeDefault), with(api.NodeCase, one)),
		text(api.NodeLabel, "a", empty), text(api.NodeLabel, "a", text(api.NodeLabel, "a", block)), with(api.NodeIf, one, text(api.NodeLabel, "a", empty)),
		fun, with(api.NodeComputed, one),
	} {
		l := script(in(b))
		if at, e := tree.Check(l); at != 0 || e != api.OK {
			t.Errorf("Check(%v): %d, %d", l, at, e)
		}
		holdBy(t, l)
	}
	for _, kind := range []int{api.NodeUnary, api.NodeBinary} {
		for _, o := range tree.Operators(kind) {
			b := text(kind, o, one)
			if kind == api.NodeBinary {
				b.kids = append(b.kids, one)
			}
			if at, e := tree.Check(script(in(b))); at != 0 || e != api.OK {
				t.Errorf("%d %s: %d, %d", kind, o, at, e)
			}
		}
	}
}

// P6.1: what no row lets stand, with the number of the node that is told.
func TestRowsRefuse(t *testing.T) {
	oneRest := with(api.NodeParams, text(api.NodeRest, "r"))
	oneName := with(api.NodeParams, name)
	valued := with(api.NodeLet, text(api.NodeInit, "a", one))
	for _, b := range []bud{
		num(math.NaN()), num(-1), num(math.Copysign(0, -1)), num(math.Inf(-1)), num(-5e-324),
		leaf(api.NodeName), text(api.NodeName, "let"), text(api.NodeName, "1"), text(api.NodeName, "a b"), text(api.NodeName, "\u00e9"),
		text(api.NodeThis, "a"), text(api.NodeNum, "1"), text(api.NodeArray, "a"), with(api.NodeNum, one), with(api.NodeName, one),
		with(api.NodeArray, none), with(api.NodeArray, expr), with(api.NodeObject, one), with(api.NodeObject, with(api.NodeSpread, one)),
		with(api.NodeProp, name, one), with(api.NodeProp, str("")), with(api.NodeProp, str(""), one, one), with(api.NodeProp, str(""), with(api.NodeSpread, one)),
		with(api.NodeGetter, str(""), with(api.NodeFunc, oneName, block)), with(api.NodeGetter, str(""), with(api.NodeFunc, oneRest, block)),
		with(api.NodeGetter, str(""), one), with(api.NodeGetter, str(""), with(api.NodeArrow, params, block)),
		with(api.NodeSetter, str(""), noParam), with(api.NodeSetter, str(""), with(api.NodeFunc, oneRest, block)),
		with(api.NodeSetter, str(""), with(api.NodeFunc, with(api.NodeParams, name, name), block)),
		with(api.NodeSetter, str(""), with(api.NodeFunc, with(api.NodeParams, name, text(api.NodeRest, "r")), block)),
		text(api.NodeFunc, "let", params, block), with(api.NodeFunc, params), with(api.NodeFunc, block, params), with(api.NodeFunc, params, one),
		text(api.NodeArrow, "f", params, block), with(api.NodeArrow, params, expr), with(api.NodeArrow, name, one), with(api.NodeArrow, params),
		leaf(api.NodeCall), with(api.NodeCall, with(api.NodeSpread, one)), with(api.NodeNew, with(api.NodeSpread, one), one), with(api.NodeCall, one, none),
		leaf(api.NodeNew), with(api.NodeDot, one), text(api.NodeDot, "", one), text(api.NodeDot, "1", one), text(api.NodeDot, "a"), text(api.NodeDot, "a", one, one),
		with(api.NodeIndex, one), with(api.NodeIndex, one, one, one), text(api.NodeIndex, "a", one, one),
		text(api.NodeUnary, "", one), text(api.NodeUnary, "++", one), text(api.NodeUnary, "! ~", one), text(api.NodeUnary, " !", one), text(api.NodeUnary, "-"),
		text(api.NodePre, "+", name), text(api.NodePre, "++", one), text(api.NodePost, "--", with(api.NodeCall, name)), text(api.NodePost, "", name),
		text(api.NodeBinary, "&&", one, one), text(api.NodeBinary, "||", one, one), text(api.NodeBinary, ",", one, one), text(api.NodeBinary, "+", one),
		text(api.NodeBinary, "of", one, one), text(api.NodeAnd, "&&", one, one), with(api.NodeAnd, one), with(api.NodeOr, one, one, one),
		with(api.NodeCond, one, one), with(api.NodeCond, one, one, one, one), text(api.NodeAssign, "==", name, one), text(api.NodeAssign, "=", one, one),
		text(api.NodeAssign, "&&=", name, one), with(api.NodeAssign, name, one), text(api.NodeAssign, "=", with(api.NodeArray, name), one),
		with(api.NodeSeq, one), leaf(api.NodeSeq), leaf(api.NodeTemplate), with(api.NodeTemplate, one), with(api.NodeTemplate, str(""), one),
		with(api.NodeTemplate, str(""), str("")), with(api.NodeTemplate, str(""), one, one), with(api.NodeTemplate, one, str(""), one),
		with(api.NodeTemplate, str(""), one, str(""), one, one), leaf(api.NodeSpread), with(api.NodeSpread, one, one), with(api.NodeSpread, with(api.NodeSpread, one)),
		with(api.NodeParams, one), with(api.NodeParams, text(api.NodeRest, "r"), name), with(api.NodeParams, text(api.NodeRest, "r"), text(api.NodeRest, "s")),
		leaf(api.NodeRest), text(api.NodeRest, "r", one), text(api.NodeRest, "if"), with(api.NodeBlock, one), with(api.NodeBlock, none),
		leaf(api.NodeLet), leaf(api.NodeConst), with(api.NodeLet, name), with(api.NodeConst, unset, one), leaf(api.NodeInit), text(api.NodeInit, "static"),
		text(api.NodeInit, "a", one, one), text(api.NodeInit, "a", expr), text(api.NodeEmpty, "a"), with(api.NodeEmpty, one), leaf(api.NodeExpr),
		with(api.NodeExpr, one, one), with(api.NodeExpr, expr), with(api.NodeExpr, with(api.NodeComputed, one)), leaf(api.NodeThrow), with(api.NodeThrow, expr),
		with(api.NodeIf, one), with(api.NodeIf, one, let), with(api.NodeIf, one, empty, let), with(api.NodeIf, one, fun), with(api.NodeIf, one, empty, fun),
		with(api.NodeIf, one, with(api.NodeConst, unset)), with(api.NodeIf, one, empty, empty, empty), with(api.NodeIf, empty, empty), with(api.NodeIf, one, none),
		with(api.NodeFor, none, none, none), with(api.NodeFor, none, none, none, let), with(api.NodeFor, none, let, none, empty),
		with(api.NodeFor, none, none, expr, empty), with(api.NodeFor, expr, none, none, empty), with(api.NodeFor, none, none, none, empty, empty),
		with(api.NodeForIn, valued, one, empty), with(api.NodeForOf, with(api.NodeLet, unset, unset), one, empty), with(api.NodeForIn, one, one, empty),
		with(api.NodeForOf, text(api.NodeDot, "a", name), one, empty), with(api.NodeForIn, none, one, empty), with(api.NodeForOf, let, none, empty),
		with(api.NodeForOf, name, one, fun), with(api.NodeForIn, let, one), with(api.NodeWhile, one, let), with(api.NodeWhile, empty, one), with(api.NodeWhile, one),
		with(api.NodeDo, one, empty), with(api.NodeDo, let, one), with(api.NodeDo, fun, one), text(api.NodeBreak, "if"), text(api.NodeContinue, "1"),
		with(api.NodeBreak, one), with(api.NodeReturn, one, one), with(api.NodeReturn, none), text(api.NodeReturn, "a"),
		with(api.NodeTry, block, block, none), text(api.NodeTry, "e", block, none, block), text(api.NodeTry, "e", block, none, none),
		with(api.NodeTry, block, none, none), text(api.NodeTry, "let", block, block, none), text(api.NodeTry, "e", block, block), with(api.NodeTry, block),
		text(api.NodeTry, "e", empty, block, none), text(api.NodeTry, "e", block, block, empty), text(api.NodeTry, "e", none, block, block),
		leaf(api.NodeSwitch), with(api.NodeSwitch, one, empty), with(api.NodeSwitch, leaf(api.NodeDefault)),
		with(api.NodeSwitch, one, leaf(api.NodeDefault), leaf(api.NodeDefault)),
		with(api.NodeSwitch, one, leaf(api.NodeDefault), with(api.NodeCase, one), leaf(api.NodeDefault)),
		leaf(api.NodeCase), with(api.NodeCase, empty), with(api.NodeCase, one, one), with(api.NodeDefault, one), with(api.NodeDefault, with(api.NodeCase, one)),
		text(api.NodeLabel, "a"), text(api.NodeLabel, "", empty), text(api.NodeLabel, "a", let), text(api.NodeLabel, "a", fun), text(api.NodeLabel, "a", one),
		text(api.NodeLabel, "do", empty), text(api.NodeFun, "", params, block), text(api.NodeFun, "f", block), text(api.NodeFun, "f", params, one),
		leaf(api.NodeComputed), with(api.NodeComputed, with(api.NodeSpread, one)), with(api.NodeNone, one), text(api.NodeNone, "a"),
		leaf(0), leaf(-1), leaf(57), leaf(64), leaf(math.MinInt), leaf(math.MaxInt), with(-1, one),
	} {
		_, n := laid(nil, b)
		if b.node.Kind == api.NodeCase || b.node.Kind == api.NodeDefault {
			n++ // the switch's first E stands ahead of it
		}
		l := script(in(b))
		if at, e := tree.Check(l); at != n || e != api.ErrTree {
			t.Errorf("Check(%v): %d, %d, not %d", l, at, e, n)
		}
		holdBy(t, l)
	}
}

// P6.1: nodes that fit, but nowhere as a statement of the script.
func TestScriptRefuses(t *testing.T) {
	for _, b := range []bud{
		one, name, none, params, unset, with(api.NodeSpread, one), with(api.NodeCase, one), leaf(api.NodeDefault), with(api.NodeComputed, one),
		text(api.NodeRest, "r"), with(api.NodeProp, one, one), leaf(api.NodeScript), with(api.NodeScript, empty),
	} {
		l := script(b, empty)
		if at, e := tree.Check(l); at != len(l)-1 || e != api.ErrTree {
			t.Errorf("Check(%v): %d, %d", l, at, e)
		}
		holdBy(t, l)
	}
}

// samples are trees that fit, by words of which each is the last node's.
func samples(t *testing.T) map[string][]api.Node {
	r := rand.New(rand.NewSource(6))
	out := map[string][]api.Node{}
	for range 10000 {
		g := &grower{Rand: r}
		n := g.grow(words[r.Intn(len(words))], r.Intn(3))
		w := wordBy(g.l, n)
		if old, has := out[w]; !has || len(g.l) < len(old) {
			out[w] = g.l
		}
	}
	if len(out) != len(words) {
		t.Fatalf("%d samples of %d words", len(out), len(words))
	}
	return out
}

// above is a node over the trees of these words, and a script that leaves it alone behind it.
func above(some map[string][]api.Node, n api.Node, kids []string) []api.Node {
	var l []api.Node
	n.Kids = nil
	for _, w := range kids {
		from := len(l)
		for _, k := range some[w] {
			k.Kids = slices.Clone(k.Kids)
			for i := range k.Kids {
				k.Kids[i] += from
			}
			l = append(l, k)
		}
		n.Kids = append(n.Kids, len(l)-1)
	}
	return append(l, n, api.Node{Kind: api.NodeScript})
}

// holdAbove asks of all kinds whether they may have kids of these words: the node, or the script, is told.
func holdAbove(t *testing.T, some map[string][]api.Node, kids []string) {
	t.Helper()
	l := above(some, api.Node{}, kids)
	n := &l[len(l)-2]
	for kind := 1; kind <= len(strings.Fields(names)); kind++ {
		n.Kind = kind
		for _, r := range byKind[kind] {
			n.Text = ""
			if r.text != "" {
				n.Text = "a"
				if !textBy(r.text, "a") {
					n.Text = strings.Fields(r.text)[0]
				}
			}
			want := len(l) - 2
			if fitsBy(l, len(l)-2) {
				want++
			}
			if at, e := tree.Check(l); at != want || e != api.ErrTree {
				t.Fatalf("%s %q of %v: %d, %d, not %d of %d", words[kind-1], n.Text, kids, at, e, want, len(l))
			}
		}
	}
}

// each tells all lists of at most so many words.
func each(most int, some []string, tell func([]string)) {
	var grow func([]string)
	grow = func(l []string) {
		tell(l)
		if len(l) == most {
			return
		}
		for _, w := range some {
			grow(append(slices.Clone(l), w))
		}
	}
	grow(nil)
}

// P6.1: all kinds with all lists of few kids, held against the document's table written as forms.
func TestKidsOfAll(t *testing.T) {
	some := samples(t)
	each(2, words, func(kids []string) { holdAbove(t, some, kids) })
	each(3, strings.Fields("Str Name Params Rest Block Let Let1 Init Empty None Case Default Func0 Spread"),
		func(kids []string) { holdAbove(t, some, kids) })
	each(4, strings.Fields("Name Str None Block Default Const"), func(kids []string) { holdAbove(t, some, kids) })
	each(6, strings.Fields("Str Num"), func(kids []string) { holdAbove(t, some, kids) })
	each(6, strings.Fields("Name Rest"), func(kids []string) { holdAbove(t, some, kids) })
	each(5, strings.Fields("Num Case Default"), func(kids []string) { holdAbove(t, some, kids) })
}

// P6.1: each field of each kind.
func TestFieldsOfAll(t *testing.T) {
	some := samples(t)
	texts := append(strings.Fields(reserved+" "+unaries+" "+steps+" "+binaries+" "+assigns), "", "a", "of", "eval", "$", "a1", "1", "1a", "a b", " ",
		" a", "a ", "\u00e9", "\xff", "a\x00", "&&", "||", ",", "?", "=>", ".", "+ -", "++ ", " --", "===.", "instanceof ", strings.Repeat("a", 70000))
	nums := []float64{0, math.Copysign(0, -1), 1, -1, 0.5, 5e-324, -5e-324, math.Inf(1), math.Inf(-1), math.NaN(),
		math.Float64frombits(0xFFF8000000000001), math.MaxFloat64}
	strs := []api.Str{"", "\x00a", "x", "\x00", "\x00ab", "\xd8\x00"}
	ats := []int{0, 1, -1, math.MaxInt, math.MinInt}
	for _, w := range words {
		l := append(copied(some[w]), api.Node{Kind: api.NodeScript})
		n := &l[len(l)-2]
		fits := *n
		for _, s := range texts {
			n.Text = s
			holdBy(t, l)
			*n = fits
		}
		for _, x := range nums {
			n.Num = x
			holdBy(t, l)
			*n = fits
		}
		for _, s := range strs {
			n.Str = s
			holdBy(t, l)
			*n = fits
		}
		for _, at := range ats {
			n.At = at
			holdBy(t, l)
			*n = fits
		}
	}
}

// P6.1: an odd byte does not count, so that a Str of one byte is empty; -0 is not 0.
func TestFieldsAtTheEdge(t *testing.T) {
	l := script(expr)
	l[1].Str = "x"
	if at, e := tree.Check(l); at != 0 || e != api.OK {
		t.Errorf("an odd byte: %d, %d", at, e)
	}
	l[1].Str = "\x00x"
	if at, e := tree.Check(l); at != 1 || e != api.ErrTree {
		t.Errorf("a unit: %d, %d", at, e)
	}
	l = script(expr)
	l[1].Num = math.Copysign(0, -1)
	if at, e := tree.Check(l); at != 1 || e != api.ErrTree {
		t.Errorf("-0: %d, %d", at, e)
	}
	l = script(expr)
	l[0].At, l[1].At, l[2].At = math.MaxInt, 7, 1
	if at, e := tree.Check(l); at != 0 || e != api.OK {
		t.Errorf("places: %d, %d", at, e)
	}
	l[1].At = -1
	if at, e := tree.Check(l); at != 1 || e != api.ErrTree {
		t.Errorf("a place below 0: %d, %d", at, e)
	}
}

// P6.1: numbers of kids, and kids of several.
func TestKidsNumbers(t *testing.T) {
	for _, c := range []struct {
		name string
		edit func(l []api.Node)
		at   int
	}{
		{"its own", func(l []api.Node) { l[2].Kids[0] = 2 }, 2},
		{"a later one", func(l []api.Node) { l[2].Kids[0] = 3 }, 2},
		{"below 0", func(l []api.Node) { l[2].Kids[0] = -1 }, 2},
		{"past the end", func(l []api.Node) { l[2].Kids[0] = len(l) }, 2},
		{"far past the end", func(l []api.Node) { l[2].Kids[0] = math.MaxInt }, 2},
		{"far below 0", func(l []api.Node) { l[2].Kids[1] = math.MinInt }, 2},
		{"twice in one node", func(l []api.Node) { l[2].Kids = []int{0, 0} }, 2},
		{"of two nodes", func(l []api.Node) { l[4].Kids = []int{0} }, 4},
		{"of the script, too", func(l []api.Node) { l[6].Kids = []int{3, 5, 3} }, 6},
		{"nobody's", func(l []api.Node) { l[6].Kids = []int{3} }, 6},
		{"nobody's, the first one", func(l []api.Node) { l[2] = api.Node{Kind: api.NodeArray, Kids: []int{1}} }, 6},
		{"no script at the end", func(l []api.Node) { l[6].Kind = api.NodeBlock }, 6},
		{"another script", func(l []api.Node) {
			l[4], l[5], l[6].Kids = api.Node{Kind: api.NodeEmpty}, api.Node{Kind: api.NodeScript, Kids: []int{4}}, []int{3}
		}, 6},
		{"another script as a kid", func(l []api.Node) { l[5] = api.Node{Kind: api.NodeScript} }, 6},
		{"the first of two", func(l []api.Node) { l[4].Kids = []int{0}; l[3].Text = "a"; l[5].At = -1 }, 3},
		{"ahead of what is at the end", func(l []api.Node) { l[6].Kind = api.NodeBlock; l[5].Text = "a" }, 5},
	} {
		l := script(with(api.NodeExpr, with(api.NodeIndex, one, one)), expr)
		if at, e := tree.Check(l); at != 0 || e != api.OK || len(l) != 7 {
			t.Fatal(at, e, l)
		}
		c.edit(l)
		if at, e := tree.Check(l); at != c.at || e != api.ErrTree {
			t.Errorf("%s: %d, %d", c.name, at, e)
		}
	}
	for _, l := range [][]api.Node{nil, {}, make([]api.Node, 1), make([]api.Node, 5), {{Kind: api.NodeEmpty}}} {
		if at, e := tree.Check(l); at != 0 || e != api.ErrTree {
			t.Errorf("Check(%v): %d, %d", l, at, e)
		}
	}
	if at, e := tree.Check([]api.Node{{Kind: api.NodeScript}}); at != 0 || e != api.OK {
		t.Errorf("a script of nothing: %d, %d", at, e)
	}
	if at, e := tree.Check([]api.Node{{Kind: api.NodeScript}, {Kind: api.NodeScript}}); at != 1 || e != api.ErrTree {
		t.Errorf("two scripts: %d, %d", at, e)
	}
}

// many is a script of n nodes: as many empty statements as wanted.
func many(n int) []api.Node {
	l := make([]api.Node, n)
	for i := range n - 1 {
		l[i] = api.Node{Kind: api.NodeEmpty}
		l[n-1].Kids = append(l[n-1].Kids, i)
	}
	l[n-1].Kind = api.NodeScript
	return l
}

// tower is a script that is deep nodes deep: an empty statement within blocks.
func tower(deep int) []api.Node {
	l := []api.Node{{Kind: api.NodeEmpty}}
	for i := range deep - 2 {
		l = append(l, api.Node{Kind: api.NodeBlock, Kids: []int{i}})
	}
	return append(l, api.Node{Kind: api.NodeScript, Kids: []int{len(l) - 1}})
}

// P6.1: the limits, and which error is ahead of which.
func TestCheckLimits(t *testing.T) {
	hold := func(name string, l []api.Node, at int, want api.Errno) {
		t.Helper()
		if got, e := tree.Check(l); got != at || e != want {
			t.Errorf("%s: %d, %d", name, got, e)
		}
		if want != api.OK {
			for n, deep := range tree.Walk(l) {
				t.Fatalf("%s: Walk tells %d, %d", name, n, deep)
			}
			if s, e := tree.Sub(l, len(l)-1); len(s) != 0 || e != want {
				t.Errorf("%s: Sub %v, %d", name, s, e)
			}
		}
	}
	hold("as many as may be", many(api.MaxNodes), 0, api.OK)
	hold("one more", many(api.MaxNodes+1), 0, api.ErrLong)
	hold("one more, that are no tree", make([]api.Node, api.MaxNodes+1), 0, api.ErrLong)
	hold("as many as may be, that are no tree", make([]api.Node, api.MaxNodes), 0, api.ErrTree)
	hold("as deep as may be", tower(api.MaxDeep), 0, api.OK)
	hold("one deeper", tower(api.MaxDeep+1), 0, api.ErrDeep)
	hold("much deeper", tower(api.MaxNodes), 0, api.ErrDeep)
	deep := tower(api.MaxDeep + 1)
	deep[len(deep)-1].Kids = nil
	hold("deep, and no tree", deep, len(deep)-1, api.ErrTree)
	deep = tower(api.MaxDeep + 1)
	deep[7].Text = "a"
	hold("deep, and a field is wrong", deep, 7, api.ErrTree)
	wide := many(api.MaxNodes)
	wide[api.MaxNodes-2].At = -1
	hold("the last but one is wrong", wide, api.MaxNodes-2, api.ErrTree)
}

// spoil changes one thing of a list.
func spoil(r *rand.Rand, l []api.Node) []api.Node {
	n := &l[r.Intn(len(l))]
	number := func() int { return r.Intn(len(l)+2) - 1 }
	switch r.Intn(10) {
	case 0:
		n.Kind = r.Intn(59) - 1
	case 1:
		n.Text = []string{"", "a", "if", "+", "=", "++", "!", "in"}[r.Intn(8)]
	case 2:
		n.Str = []api.Str{"", "\x00a", "x"}[r.Intn(3)]
	case 3:
		n.Num = []float64{0, 1, math.Copysign(0, -1), math.NaN()}[r.Intn(4)]
	case 4:
		n.At = r.Intn(4) - 1
	case 5:
		n.Kids = append(n.Kids, number())
	case 6, 7:
		if len(n.Kids) > 0 {
			n.Kids[r.Intn(len(n.Kids))] = number()
		}
	case 8:
		if len(n.Kids) > 0 {
			n.Kids = n.Kids[:len(n.Kids)-1]
		}
	case 9:
		l = l[:len(l)-1]
	}
	return l
}

// P6.1, P6.7: many trees as they come, and what becomes of them if few things are changed.
func TestCheckMany(t *testing.T) {
	r := rand.New(rand.NewSource(17))
	kept := 0
	for i := range 6000 {
		l := someTree(r, 2+i%8)
		if e := holdBy(t, l); e != api.OK && e != api.ErrDeep {
			t.Fatalf("no tree came of it: %d, %v", e, l)
		}
		given := copied(l)
		tree.Check(l)
		if !tree.Same(l, given) {
			t.Fatal("Check changed its argument")
		}
		holdTree(t, l)
		for range 1 + r.Intn(3) {
			if l = spoil(r, l); len(l) == 0 {
				break
			}
			if holdBy(t, l) == api.OK {
				kept++
			}
		}
		holdTree(t, l)
	}
	if kept == 0 {
		t.Error("nothing that was changed is a tree")
	}
}

// P1: whatever nodes there are, each call ends.
func TestAnything(t *testing.T) {
	r := rand.New(rand.NewSource(18))
	some := []int{math.MinInt, -1, 0, 1, 2, 3, 55, 56, 57, 63, 64, 65, math.MaxInt}
	for range 30000 {
		l := make([]api.Node, r.Intn(6))
		for i := range l {
			l[i].Kind = r.Intn(60) - 2
			if r.Intn(9) == 0 {
				l[i].Kind = some[r.Intn(len(some))]
			}
			for range r.Intn(4) {
				l[i].Kids = append(l[i].Kids, some[r.Intn(7)])
			}
		}
		holdBy(t, l)
		holdTree(t, l)
		for _, n := range some {
			tree.Sub(l, n)
			tree.Operators(n)
		}
	}
}
