package gen_test

import (
	"math"
	"slices"
	"strings"
	"testing"

	"lintel/api"
	"lintel/code"
	"lintel/gen"
	"lintel/parse"
	"lintel/units"
)

// parsed is the tree of a source.
func parsed(t *testing.T, src string) []api.Node {
	t.Helper()
	l, at, e := parse.Script(src)
	if e != api.OK {
		t.Fatalf("%.500q: no script: %d, error %d", src, at, e)
	}
	return l
}

// headsOf is what P13.4 says of the functions of a module.
func headsOf(m api.Module) []string {
	var out []string
	for _, f := range m.Fns {
		out = append(out, headOf(units.Text(f.Name), f.Params, f.Rest, f.Arrow))
	}
	return out
}

// P13.4: a function for the script, and one for each that stands in it, in Walk's order.
func TestFunctions(t *testing.T) {
	for _, x := range []struct{ src, want string }{
		{"", " 0 false false"},
		{"function f(a, ...b) {} x => x;", " 0 false false, f 1 true false,  1 false true"}, // the document's
		{"a => b => (...c) => 1; function f() {}", " 0 false false,  1 false true,  1 false true,  0 true true, f 0 false false"},
		{"f(function () {}, function g(a, b) { function h() {} });", " 0 false false,  0 false false, g 2 false false, h 0 false false"},
		{"({ a(b) {}, get c() {}, set d(e) {}, f: function g() {}, h: () => {}, [() => 1]: 2 });", " 0 false false,  1 false false,  0 false false,  1 false false, g 0 false false,  0 false true,  0 false true"},
		{"let a = () => {}; const b = function () {};", " 0 false false,  0 false true,  0 false false"},
		{"{ { function $(_, ...a1) {} } } switch (() => 1) { case () => 2: function f() {} }", " 0 false false, $ 1 true false,  0 false true,  0 false true, f 0 false false"},
		{"try { () => 1; } catch (e) { function f() {} } finally { (function g() {}); }", " 0 false false,  0 false true, f 0 false false, g 0 false false"},
		{"return_: for (let f = () => f; ; (a, b) => 1) (c, d, e) => 1;", " 0 false false,  0 false true,  2 false true,  3 false true"},
	} {
		if got := strings.Join(headsOf(made(t, x.src, parsed(t, x.src))), ", "); got != x.want {
			t.Errorf("%q: functions %q, not %q", x.src, got, x.want)
		}
	}
}

// P13.2: what Source answers is what parse and Script answer.
func TestSource(t *testing.T) {
	for _, x := range []struct {
		src string
		at  int
		e   api.Errno
	}{
		{"", 0, api.OK}, {"a\n++b", 0, api.OK},
		{"let a; let a;", 11, api.ErrEarly}, {"  return;", 2, api.ErrEarly}, {"a; break;", 3, api.ErrEarly}, {"const a;", 6, api.ErrEarly},
		{"-a ** b", 3, api.ErrSyntax}, {"let let;", 4, api.ErrSyntax}, {"let a; let a; )", 14, api.ErrSyntax}, {"let", 3, api.ErrSyntax},
		{"a #", 2, api.ErrToken}, {"'", 0, api.ErrToken}, {"let a; let a; '", 14, api.ErrToken},
		{"ab\xff", 2, api.ErrUTF}, {strings.Repeat(" ", api.MaxSource+1), 0, api.ErrLong}, {strings.Repeat(" ", api.MaxSource), 0, api.OK},
		{strings.Repeat("a;", api.MaxNodes/2), 0, api.ErrLong}, {strings.Repeat("(", 151), 150, api.ErrDeep}, {strings.Repeat("! ", 198) + "a", 0, api.ErrDeep}, {strings.Repeat("! ", 197) + "a", 0, api.OK},
	} {
		m, at, e := gen.Source(x.src)
		if at != x.at || e != x.e || (e == api.OK) != (len(m.Fns) > 0) {
			t.Errorf("%.40q: %d functions, %d, error %d, not %d, error %d", x.src, len(m.Fns), at, e, x.at, x.e)
		}
		l, _, e := parse.Script(x.src)
		if e == api.OK {
			if again, at, e := gen.Script(l); at != x.at || e != x.e || !code.Same(m, again) {
				t.Errorf("%.40q: Script answers otherwise: %d, error %d", x.src, at, e)
			}
		}
	}
}

// P13.1: trees that parse does not make.
func TestOddTrees(t *testing.T) {
	call := func(args ...api.Node) []api.Node {
		l := append([]api.Node{{Kind: api.NodeName, Text: "print"}}, args...)
		kids := []int{0}
		for n := range args {
			if !slices.ContainsFunc(args, func(a api.Node) bool { return slices.Contains(a.Kids, n+1) }) {
				kids = append(kids, n+1)
			}
		}
		n := len(l)
		return append(l, api.Node{Kind: api.NodeCall, Kids: kids}, api.Node{Kind: api.NodeExpr, Kids: []int{n}}, api.Node{Kind: api.NodeScript, Kids: []int{n + 1}})
	}
	x, _, _ := units.Of("x")
	for _, c := range []struct {
		about string
		l     []api.Node
		want  string
	}{
		{"an odd byte", call(api.Node{Kind: api.NodeStr, Str: x + "a"}), "x"},
		{"just an odd byte", call(api.Node{Kind: api.NodeStr, Str: "a"}), ""},
		{"an odd byte in a template", call(api.Node{Kind: api.NodeStr, Str: x + "a"}, api.Node{Kind: api.NodeTrue}, api.Node{Kind: api.NodeStr, Str: "a"}, api.Node{Kind: api.NodeTemplate, Kids: []int{1, 2, 3}}), "xtrue"},
		{"an odd byte in a key", call(api.Node{Kind: api.NodeStr, Str: x + "a"}, api.Node{Kind: api.NodeTrue}, api.Node{Kind: api.NodeProp, Kids: []int{1, 2}}, api.Node{Kind: api.NodeObject, Kids: []int{3}}, api.Node{Kind: api.NodeDot, Text: "x", Kids: []int{4}}), "true"},
		{"an infinite number", call(api.Node{Kind: api.NodeNum, Num: math.Inf(1)}), "Infinity"},
		{"an infinite key", call(api.Node{Kind: api.NodeNum, Num: math.Inf(1)}, api.Node{Kind: api.NodeTrue}, api.Node{Kind: api.NodeProp, Kids: []int{1, 2}}, api.Node{Kind: api.NodeObject, Kids: []int{3}}, api.Node{Kind: api.NodeDot, Text: "Infinity", Kids: []int{4}}), "true"},
		{"a getter with a name", call(api.Node{Kind: api.NodeStr, Str: x}, api.Node{Kind: api.NodeParams}, api.Node{Kind: api.NodeName, Text: "f"}, api.Node{Kind: api.NodeUnary, Text: "typeof", Kids: []int{3}}, api.Node{Kind: api.NodeReturn, Kids: []int{4}}, api.Node{Kind: api.NodeBlock, Kids: []int{5}}, api.Node{Kind: api.NodeFunc, Text: "f", Kids: []int{2, 6}}, api.Node{Kind: api.NodeGetter, Kids: []int{1, 7}}, api.Node{Kind: api.NodeObject, Kids: []int{8}}, api.Node{Kind: api.NodeDot, Text: "x", Kids: []int{9}}), "function"},
	} {
		m := made(t, c.about, c.l)
		agree(t, c.about, c.l, m)
		if got := runModule(m, newWorld(1000)); got.End != api.EndNormal || !slices.Equal(got.Trace, []string{c.want}) {
			t.Errorf("%s: end %d, %q", c.about, got.End, got.Trace)
		}
	}
}
