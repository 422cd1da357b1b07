package early_test

import (
	"math"
	"slices"
	"strings"
	"testing"

	"lintel/api"
	"lintel/early"
)

// nodesOf is the nodes of some kind, in the order of their places, of those at one place the greater number first.
func nodesOf(l []api.Node, kind int) []int {
	var out []int
	for n := range l {
		if l[n].Kind == kind {
			out = append(out, n)
		}
	}
	slices.SortFunc(out, func(a, b int) int {
		if l[a].At != l[b].At {
			return l[a].At - l[b].At
		}
		return b - a
	})
	return out
}

// P9.3: the names of each node that begins a scope, by kinds, in the source's order.
func TestNames(t *testing.T) {
	for _, x := range []struct {
		kind int
		src  string
		want string // of each such node the names, with commas between; a blank between nodes
	}{
		{api.NodeScript, "", ""},
		{api.NodeScript, "let a, b = 1; c; function d(e) { let f; } const g = () => { let h; }; { let i; } for (let j; ; ) ; try {} catch (k) {} k: ;", "a,b,d,g"},
		{api.NodeScript, "let b, a; const b = 1; function a() {}", "b,a,b,a"},
		{api.NodeScript, "let eval, arguments;", "eval,arguments"},
		{api.NodeFun, "function f(a, b, ...c) { let d; function e(g) { let h; } { let i; } for (let j of k) ; }", "a,b,c,d,e g,h"},
		{api.NodeFun, "function f() {} function f(f) {}", " f"},
		{api.NodeFunc, "(function f(a) { let b; { let c; } });", "a,b"},
		{api.NodeFunc, "(function (a, a) { let a; });", "a,a,a"},
		{api.NodeFunc, "({ a(b) { let c; }, get d() { const e = 1; }, set f(g) { function h() {} } });", "b,c e g,h"},
		{api.NodeArrow, "a => (b, ...c) => { let d; };", "a b,c,d"},
		{api.NodeArrow, "() => 1;", ""},
		{api.NodeArrow, "a => ({ b: function () { let c; } });", "a"},
		{api.NodeBlock, "{ let a; const b = 1, c = 2; function d() { let e; } { let f; } }", "a,b,c,d  f"},
		{api.NodeBlock, "function f(a) { let b; }", ""}, {api.NodeBlock, "(function () { let b; });", ""}, {api.NodeBlock, "a => { let b; };", ""}, {api.NodeBlock, "({ a() { let b; } });", ""},
		{api.NodeBlock, "try { let a; } catch (e) { let b; } finally { let c; }", "a e,b c"},
		{api.NodeBlock, "try { let a; } finally { let b; }", "a b"},
		{api.NodeBlock, "try {} catch (e) { let e; }", " e,e"},
		{api.NodeBlock, "if (a) { let b; } else { let c; }", "b c"},
		{api.NodeBlock, "for (let a; ; ) { let b; }", "b"}, {api.NodeBlock, "a: { let a; }", "a"},
		{api.NodeSwitch, "switch (() => { let z; }) { case 1: let a; { let b; } case 2: function c() {} default: const d = 1; case 3: let e, a; }", "a,c,d,e,a"},
		{api.NodeSwitch, "switch (a) { }", ""},
		{api.NodeCase, "switch (a) { case 1: let b; }", ""}, {api.NodeDefault, "switch (a) { default: let b; }", ""},
		{api.NodeFor, "for (let a = 1, b; ; ) { let c; }", "a,b"}, {api.NodeFor, "for (const a = 1; ; ) ;", "a"}, {api.NodeFor, "for (a; b; c) d;", ""}, {api.NodeFor, "for (; ; ) { let a; }", ""}, {api.NodeFor, "for (() => { let a; }; ; ) ;", ""},
		{api.NodeForIn, "for (let a in b) { let c; }", "a"}, {api.NodeForIn, "for (const a in b) ;", "a"}, {api.NodeForIn, "for (a in b) { let c; }", ""},
		{api.NodeForOf, "for (let a of b) { let c; }", "a"}, {api.NodeForOf, "for (const a of b) ;", "a"}, {api.NodeForOf, "for (a of b) ;", ""},
		{api.NodeTry, "try { let a; } catch (e) {}", ""}, {api.NodeLet, "let a;", ""}, {api.NodeConst, "const a = 1;", ""}, {api.NodeInit, "let a;", ""}, {api.NodeParams, "a => a;", ""}, {api.NodeName, "a => 1;", ""},
		{api.NodeRest, "(...a) => 1;", ""}, {api.NodeWhile, "while (1) { let a; }", ""}, {api.NodeDo, "do { let a; } while (1);", ""}, {api.NodeIf, "if (a) { let b; }", ""}, {api.NodeLabel, "a: { let b; }", ""}, {api.NodeExpr, "a;", ""},
	} {
		l := parsed(t, x.src)
		var got []string
		for _, n := range nodesOf(l, x.kind) {
			got = append(got, strings.Join(early.Names(l, n), ","))
		}
		if len(got) == 0 || strings.Join(got, " ") != x.want {
			t.Errorf("%q: names of kind %d: %q, not %q", x.src, x.kind, got, x.want)
		}
	}
}

// P9.3: what is no node has no names.
func TestNamesOfNoNode(t *testing.T) {
	l := parsed(t, "let a;")
	for _, n := range []int{-1, len(l), len(l) + 1, math.MinInt, math.MaxInt} {
		if got := early.Names(l, n); len(got) > 0 {
			t.Errorf("names of %d: %q", n, got)
		}
	}
}
