package scope_test

import (
	"fmt"
	"slices"
	"strings"
	"testing"

	"lintel/api"
	"lintel/parse"
	"lintel/scope"
)

var kinds = map[int]string{
	api.BindLet: "let", api.BindConst: "const", api.BindFun: "fun", api.BindParam: "param", api.BindCatch: "catch", api.BindSelf: "self",
}

var nodes = map[int]string{
	api.NodeScript: "script", api.NodeFunc: "func", api.NodeArrow: "arrow", api.NodeFun: "fun", api.NodeBlock: "block",
	api.NodeSwitch: "switch", api.NodeFor: "for", api.NodeForIn: "in", api.NodeForOf: "of",
}

// parsed is the tree of a source.
func parsed(t *testing.T, src string) []api.Node {
	t.Helper()
	l, at, e := parse.Script(src)
	if e != api.OK {
		t.Fatalf("%q: no script: %d, error %d", src, at, e)
	}
	return l
}

// told is bindings as a text: of each its kind, name, scope and function, and whether it is taken, and turns.
func told(l []api.Node, bindings []api.Binding) string {
	place := func(n int) string {
		if n == len(l)-1 {
			return "script"
		}
		return fmt.Sprint(nodes[l[n].Kind], l[n].At)
	}
	var out []string
	for _, b := range bindings {
		s := kinds[b.Kind] + " " + b.Name + " " + place(b.Scope) + " " + place(b.Func)
		if b.Taken {
			s += " taken"
		}
		if b.Turns {
			s += " turns"
		}
		out = append(out, s)
	}
	return strings.Join(out, ", ")
}

// P10.1: bindings of each kind, in Walk's order.
func TestBindings(t *testing.T) {
	for _, x := range []struct{ src, want string }{
		{"", ""},
		{"a; b.c; d: ; this; ({ e: 1, f() {}, [g]: h });", ""},
		{"let a, b = 1; const c = 2;", "let a script script, let b script script, const c script script"},
		{"function f() {} let a;", "fun f script script, let a script script"},
		{"let a = function () { let b; }, c;", "let a script script, let b func8 func8, let c script script"},
		{"function f(a, b, ...c) { let d; function g(e) {} { const h = 1; } }", "fun f script script, param a fun0 fun0, param b fun0 fun0, param c fun0 fun0, let d fun0 fun0, fun g fun0 fun0, param e fun32 fun32, const h block49 fun0"},
		{"(function f(a) { let b; });", "self f func1 func1, param a func1 func1, let b func1 func1"},
		{"(function () { function f() {} });", "fun f func1 func1"},
		{"(function f(f) {});", "self f func1 func1, param f func1 func1"},
		{"(function f() { let f; });", "self f func1 func1, let f func1 func1"},
		{"function f(f) {}", "fun f script script, param f fun0 fun0"},
		{"(a, ...b) => { let c; };", "param a arrow0 arrow0, param b arrow0 arrow0, let c arrow0 arrow0"},
		{"a => b => 1;", "param a arrow0 arrow0, param b arrow5 arrow5"},
		{"({ a(b) { let c; }, get d() { let e; }, set f(g) { let h; } });", "param b func4 func4, let c func4 func4, let e func25 func25, param g func45 func45, let h func45 func45"},
		{"{ let a; { function f() {} } }", "let a block0 script, fun f block9 script"},
		{"if (1) { let a; } else { let b; } while (1) { let c; } do { let d; } while (1);", "let a block7 script, let b block23 script, let c block44 script, let d block58 script"},
		{"try { let a; } catch (e) { let b; } finally { let c; }", "catch e block25 script, let a block4 script, let b block25 script, let c block44 script"},
		{"try { let a; } finally { let b; }", "let a block4 script, let b block23 script"},
		{"function f() { try {} catch (e) {} }", "fun f script script, catch e block32 fun0"},
		{"switch (1) { case 1: let a; { let b; } default: const c = 1; case 2: function f() {} }", "let a switch0 script, let b block28 script, const c switch0 script, fun f switch0 script"},
		{"() => { switch (1) { default: let a; } };", "let a switch8 arrow0"},
		{"for (let a = 1, b; ; ) { let c; }", "let a for0 script, let b for0 script, let c block23 script"},
		{"for (const a = 1; ; ) { let a; }", "const a for0 script, let a block22 script"},
		{"for (let a in b) { let c; } for (const d of e) { let f; }", "let a in0 script, let c block17 script, const d of28 script, let f block47 script"},
		{"for (a of b) ; for (a in b) ; for (a; b; c) ;", ""},
		{"x => { for (let a of b) ; };", "param x arrow0 arrow0, let a of7 arrow0"},
		{"l: for (let a; ; ) ;", "let a for3 script"},
	} {
		l := parsed(t, x.src)
		b, e := scope.Bindings(l)
		if got := told(l, b); e != api.OK || got != x.want {
			t.Errorf("%q: error %d, bindings\n%s, not\n%s", x.src, e, got, x.want)
		}
	}
}

// P10.1: whether a binding is taken, and turns.
func TestTaken(t *testing.T) {
	for _, x := range []struct{ src, taken, turns string }{
		{"let a; function f() { return a; }", "a", ""}, // the document's
		{"for (let i = 0; ; ) { () => i; }", "i", "i"},
		{"let a; a;", "", ""}, {"let a; () => b;", "", ""}, {"let a; { { a; } }", "", ""}, {"let a; () => { { a = 1; } };", "a", ""},
		{"let a; a => a;", "", ""}, {"let a; () => { let a; a; };", "", ""}, {"let a = () => a;", "a", ""}, {"() => a; let a;", "a", ""}, {"let a; ({ a: 1 }).a; () => ({ a: 1 }).a;", "", ""}, {"let a; ({ b() { a; } });", "a", ""},
		{"let a; a: for (; ; ) () => { a: for (; ; ) break a; };", "", ""},
		{"const a = 1; () => a;", "a", ""}, {"function f() {} f();", "", ""}, {"function f() { f(); }", "f", ""}, {"function f() {} function g() { f(); }", "f", ""}, {"function f() { () => f; }", "f", ""},
		{"(function f() { f(); });", "", ""}, {"(function f() { () => f; });", "f", ""}, {"(function f() { function g() { f; } });", "f", ""}, {"(function f(f) { () => f; });", "f", ""},
		{"function f(a, b) { a; return () => b; }", "b", ""}, {"function f(...a) { a; }", "", ""}, {"function f(...a) { return () => a; }", "a", ""}, {"a => b => a;", "a", ""}, {"a => b => b;", "", ""},
		{"try {} catch (e) { e; }", "", ""}, {"try {} catch (e) { () => e; }", "e", ""}, {"try { () => e; } catch (e) {}", "", ""}, {"try {} catch (e) {} finally { () => e; }", "", ""},
		{"switch (() => a) { case 1: let a; }", "", ""}, {"switch (1) { case () => a: let a; }", "a", ""}, {"switch (1) { case 1: let a; default: () => a; }", "a", ""},
		{"for (let i = 0; i < 1; i++) { i; }", "", ""}, {"for (let i = () => i; ; ) ;", "i", "i"}, {"for (let i; () => i; ) ;", "i", "i"}, {"for (let i; ; () => i) ;", "i", "i"}, {"for (let i, j; ; ) () => j;", "j", "j"},
		{"for (const i = 0; ; ) () => i;", "i", ""}, {"for (let i of j) () => i;", "i", ""}, {"for (let i in j) () => i;", "i", ""}, {"for (const i of j) () => i;", "i", ""}, {"for (let i of () => i) ;", "i", ""},
		{"for (; ; ) { let i; () => i; }", "i", ""}, {"for (let i; ; ) { let j; () => j; }", "j", ""}, {"for (let i; ; ) { let i; () => i; }", "i", ""}, {"let i; for (i; ; ) () => i;", "i", ""}, {"for (() => { let i; () => i; }; ; ) ;", "i", ""},
		{"() => { for (let i; ; ) { i; } };", "", ""}, {"() => { for (let i; ; ) { () => i; } };", "i", "i"},
	} {
		l := parsed(t, x.src)
		b, e := scope.Bindings(l)
		var taken, turns []string
		for _, b := range b {
			if b.Taken {
				taken = append(taken, b.Name)
			}
			if b.Turns {
				turns = append(turns, b.Name)
			}
		}
		if e != api.OK || strings.Join(taken, " ") != x.taken || strings.Join(turns, " ") != x.turns {
			t.Errorf("%q: error %d, taken %q, turns %q", x.src, e, taken, turns)
		}
	}
}

// P10.3: what each function, in the source's order, takes of those about it.
func TestFree(t *testing.T) {
	for _, x := range []struct {
		src  string
		want [][]int
	}{
		{"let a; a;", nil},
		{"() => a;", [][]int{nil}},
		{"let a; function f() { return a; }", [][]int{{0}}},
		{"let a, b, c; () => { c; a; c; a; };", [][]int{{0, 2}}},
		{"function f() { f(); }", [][]int{{0}}},
		{"(function f() { f(); });", [][]int{nil}},
		{"(function f() { () => f; });", [][]int{nil, {0}}},
		{"let a; function f(b) { return () => a + b; }", [][]int{{0}, {0, 2}}},
		{"let a; () => () => () => a;", [][]int{{0}, {0}, {0}}},
		{"a => b => c => a + c;", [][]int{nil, {0}, {0}}},
		{"a => b => c => b;", [][]int{nil, nil, {1}}},
		{"a => { let b; { let c; try {} catch (d) { () => a + b + c + d; } } };", [][]int{nil, {0, 1, 2, 3}}},
		{"let a; a => a;", [][]int{nil}},
		{"let a; () => { let b; b; () => a; };", [][]int{{0}, {0}}},
		{"let a; function f() {} () => a;", [][]int{nil, {0}}},
		{"function f() { return g(); } function g() { return f(); }", [][]int{{1}, {0}}},
		{"let a; ({ b(c) { return a + c; }, get d() { return a; }, set e(f) { f; } });", [][]int{{0}, {0}, nil}},
		{"for (let i; ; ) () => i;", [][]int{{0}}},
		{"switch (() => a) { case () => a: let a; }", [][]int{nil, {0}}},
	} {
		l := parsed(t, x.src)
		var got [][]int
		for _, n := range walked(l) {
			list, e := scope.Free(l, n)
			if e != api.OK {
				t.Errorf("%q: free of %d: error %d", x.src, n, e)
			}
			if kind := l[n].Kind; kind == api.NodeFunc || kind == api.NodeArrow || kind == api.NodeFun {
				got = append(got, list)
			} else if len(list) > 0 {
				t.Errorf("%q: free of %d, of kind %d: %v", x.src, n, kind, list)
			}
		}
		if !slices.EqualFunc(got, x.want, slices.Equal) {
			t.Errorf("%q: %v, not %v", x.src, got, x.want)
		}
	}
}

// P10.4: the names that no binding has, each once, as they come.
func TestGlobals(t *testing.T) {
	for _, x := range []struct{ src, want string }{
		{"", ""}, {"let a; a;", ""}, {"b; a; b; a;", "b a"}, {"a; { let a; a; } a;", "a"}, {"{ let a; } a;", "a"}, {"a = b + c(d);", "a b c d"},
		{"() => { z; y => y + x; };", "z x"}, {"(function f() {}); f;", "f"}, {"function f() {} f;", ""}, {"a.b; ({ c: d, e }); g: ; `${h}`;", "a d e h"},
		{"for (a of b) c;", "a b c"}, {"for (let a of a) a;", ""}, {"for (let a; ; ) ; a;", "a"}, {"for (let a in b) ; a;", "b a"}, {"try { e; } catch (e) { e; }", "e"}, {"try {} catch (e) {} finally { e; }", "e"},
		{"switch (a) { case a: let a; }", "a"}, {"switch (b) { default: let a; } a;", "b a"}, {"(a => 1); a;", "a"}, {"undefined; NaN; print(eval);", "undefined NaN print eval"},
	} {
		got, e := scope.Globals(parsed(t, x.src))
		if e != api.OK || strings.Join(got, " ") != x.want {
			t.Errorf("%q: %q, error %d", x.src, got, e)
		}
	}
}
