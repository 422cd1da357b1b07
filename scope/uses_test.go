package scope_test

import (
	"fmt"
	"strings"
	"testing"

	"lintel/api"
	"lintel/scope"
)

// unmarked takes the marks out of a source: @ and a binding's number, or - for none, and ? where the use asks, ahead of each use.
func unmarked(marked string) (src string, marks []string) {
	for {
		ahead, rest, found := strings.Cut(marked, "@")
		src += ahead
		if !found {
			return src, marks
		}
		end := strings.IndexFunc(rest, func(r rune) bool { return !strings.ContainsRune("0123456789-?", r) })
		marks = append(marks, fmt.Sprint(len(src), " ", rest[:end]))
		marked = rest[end:]
	}
}

// hold asks for the uses of sources in which each is marked.
func hold(t *testing.T, sources ...string) {
	t.Helper()
	for _, marked := range sources {
		src, want := unmarked(marked)
		l := parsed(t, src)
		uses, e := scope.Uses(l)
		var got []string
		for _, u := range uses {
			s := fmt.Sprint(l[u.Node].At, " ", u.Bind)
			if u.Bind == -1 {
				s = fmt.Sprint(l[u.Node].At, " -")
			}
			if u.Asks {
				s += "?"
			}
			if l[u.Node].Kind != api.NodeName {
				t.Errorf("%q: a use of kind %d", marked, l[u.Node].Kind)
			}
			got = append(got, s)
		}
		if e != api.OK || strings.Join(got, ", ") != strings.Join(want, ", ") {
			t.Errorf("%q: error %d, places, bindings and what asks:\n%v, not\n%v", marked, e, got, want)
		}
	}
}

// P10.2: the document's examples.
func TestExamples(t *testing.T) {
	hold(t, "let a; function f() { return @0?a; }", "@0?a; let a;", "let a; @0a;", "for (let i = 0; ; ) { () => @0?i; }")
}

// P10.2, P10.5: what names mean.
func TestMeant(t *testing.T) {
	hold(t,
		"", "@-a;", "let a;", "let a, b; @1b; @0a; @-c;", "@-a.b; @-a[@-b]; ({ a: @-b, c() {}, @-d, [@-e]: 1 }); f: ; `${@-g}`;",
		"let a; { let a; @1a; { @1a; } { let a; @2a; } @1a; } @0a;", "{ let a; } @-a;", "{ @-a; } { let a; }",
		"@-a = 1; @-b += 1; @-c++; --@-d; typeof @-e; delete @-f.g; new @-h(...@-i);", "let a; @0a = 1; @0a++; typeof @0a;",
		"function f(a, b, ...c) { @2b; @1a; @3c; @0f; }", "function f() { @0f; } @0f;", "function f() {} function g() { @0f; @1g; }", "@0f; function f() {}", "{ @0f; function f() {} } @-f;", "function f(f) { @1f; } @0f;", "function f() { let f; @1f; }",
		"(function f() { @0f; });", "(function f() {}); @-f;", "(function f(f) { @1f; });", "(function f() { let f; @1f; });", "(function f() { { let f; @1f; } @0f; });", "(function f() { function f() { @1f; } @1f; });", "(function (a) { @0a; });",
		"let f; (function f() { @1f; }); @0f;", "let f; (function g() { @0?f; });", "let f = function f() { @1f; };", "(function f() { (function f() { @1f; }); @0f; });", "(function f() { (function () { @0f; }); });",
		"a => @0a;", "(a, ...b) => @1b + @0a + @-c;", "a => (a => @1a) + @0a;", "a => { { let a; @1a; } @0a; }; @-a;", "let a; a => @1a;", "let a; (a => 1); @0a;", "() => { let a; }; @-a;",
		"({ a(b) { @0b; @-a; }, get c() { let d; @1d; }, set e(f) { @2f; @-b; } });",
		"try { @-e; } catch (e) { @0e; { @0e; } } finally { @-e; }", "let e; try { @0e; } catch (e) { @1e; } finally { @0e; }", "try { let a; @1a; } catch (e) { let b; @2b; @-a; } finally { @-b; }", "try {} catch (e) { { let e; @1e; } @0e; }", "try {} catch (e) { try { @0e; } catch (e) { @1e; } @0e; }",
		"try { let a; } finally { @-a; }",
		"switch (@-a) { case @0?a: let a; @0?a; default: @0?a; }", "let a; switch (@0a) { case 1: let a; @1?a; } @0a;", "let a; switch (() => { @0?a; }) { case 1: let a; }", "switch (@-f) { case @0f: function f() {} }", "switch (@-b) { case 1: { let b; @0b; } case 2: @-b; }",
		"let a; switch ({ b: @0a }) { case 1: let a; }",
		"for (let i = 0, j = @0i; @0i < @1j; @0i++) { @0i; } @-i;", "let i; for (let i = @1?i; @1i; @1i) @1i;", "for (let i; ; ) { let i; @1i; }", "for (@-a; @-b; @-c) @-d;", "let a; for (@0a; @0a; @0a) @0a;", "for (let i; @0i; @0i) { let i; @1i; }",
		"for (let a of @0?a) @0a;", "for (let a in @0?a) { @0a; } @-a;", "let a; for (let a of @1?a) @1a;", "for (@-a of @-b) @-c;", "for (@-a in @-b) @-c;", "let a; for (@0a of @0a) @0a;", "for (const a of @-b) { let a; @1a; }", "for (let a of @0?a.b(@0?a)) { let a; @1a; }",
		"if (@-a) { let a; @0a; } else { @-a; }", "while (@-a) { let a; @0a; }", "do { let a; @0a; } while (@-a);", "a: { let a; @0a; break a; }", "throw @-a;", "(function () { return @-a; });",
	)
}

// P10.2: which uses ask.
func TestAsks(t *testing.T) {
	hold(t,
		"let a = @0?a;", "let a = 1; @0a;", "const a = @0?a; @0a;", "let a = @1?b, b = @0a;", "let a = [@0?a, { b: @0?a }], c = @0a;", "@0?a = 1; let a;", "let a = @0?a = 1;", "typeof @0?a; let a;", "let a = (@0?a, @0?a);",
		"{ @0?a; { @0?a; } let a; { @0a; } @0a; }", "let a = () => @0?a;", "let a = () => { let b; @1b; @0?a; };", "let a; () => @0?a;", "let a; () => { @0?a; () => @0?a; };", "() => { let a; @0a; };", "() => { @0?a; let a; };",
		"let a = function () { @0?a; @1?b; }, b; @0a; @1b;", "let a; ({ get b() { @0?a; }, c() { @0?a; }, d: @0a });", "if (1) @0?a; let a; if (@0a) ;", "while (@0?a) ; let a; while (@0a) { @0a; }",
		"@0f; function f() { @0f; }", "@-f(); { @0f; function f() {} }", "() => @0f; function f() {}", "a => () => @0a;", "(...a) => () => @0a;", "try {} catch (e) { () => @0e; @0e; }", "(function f() { () => @0f; @0f; });",
		"switch (1) { case 1: let a = 1; @0?a; { @0?a; } case 2: @0?a; () => @0?a; }", "switch (1) { default: const a = 1; @0?a; }", "switch (1) { case 1: { let a; @0a; } }", "switch (1) { case 1: function f() {} default: @0f; () => @0f; }", "let a; switch (@0a) { case @0a: @0a; }", "switch (1) { case 1: for (let a of @0?a) @0a; }",
		"switch (1) { case 1: () => { let a; @0a; }; }",
		"for (let i = 0; @0i; @0i) { @0i; () => @0?i; }", "for (let i = () => @0?i; ; ) ;", "for (const i = @0?i; @0i; ) @0i;", "for (let i, j = @0i, k = @2?k; ; ) { @2k; }", "for (let i = @1?j, j; ; ) ;",
		"for (let a of @0?a) { @0a; () => @0?a; }", "for (let a in @0?a) { { @0a; } }", "for (const a of [() => @0?a, @0?a]) @0a;", "for (let a of @-b) for (let c of @0a) { @0a; @1c; }", "for (let a of @-b) { @1?c; let c; @1c; @0a; }",
		"for (let a of () => { for (let b of @1?b) @1b; @0?a; }) ;", "for (let a in (b => @1b + @0?a)) ;", "let a; for (let b of @0a) @0a;", "for (let a of @-b) while (@0a) @0a;",
	)
}

// P10.2: the function in which each use stands, by its kind and place.
func TestUseFunc(t *testing.T) {
	for _, x := range []struct{ src, want string }{
		{"a; { a; for (let a of a) a; }", "script script script script"},
		{"function f() { a; { a; } } a;", "fun0 fun0 script"},
		{"(function f() { f; try { a; } catch (e) { e; } });", "func1 func1 func1"},
		{"a => b => (a, b, () => { c; });", "arrow5 arrow5 arrow17"},
		{"() => { function f() { a; } a; };", "fun8 arrow0"},
		{"({ [a]: 1, b() { c; }, get [d]() { e; }, set f(g) { g; } });", "script func12 script func30 func46"},
		{"f(a, () => a, a);", "script script arrow5 script"},
	} {
		l := parsed(t, x.src)
		uses, e := scope.Uses(l)
		var got []string
		for _, u := range uses {
			if u.Func == len(l)-1 {
				got = append(got, "script")
			} else {
				got = append(got, fmt.Sprint(nodes[l[u.Func].Kind], l[u.Func].At))
			}
		}
		if e != api.OK || strings.Join(got, " ") != x.want {
			t.Errorf("%q: error %d, %q", x.src, e, got)
		}
	}
}

// P10.1, P10.2: a getter's function may have a name of its own in a tree, though in no source.
func TestGetterNamed(t *testing.T) {
	l := []api.Node{
		{Kind: api.NodeStr},
		{Kind: api.NodeParams},
		{Kind: api.NodeName, Text: "f"},
		{Kind: api.NodeReturn, Kids: []int{2}},
		{Kind: api.NodeBlock, Kids: []int{3}},
		{Kind: api.NodeFunc, Text: "f", Kids: []int{1, 4}},
		{Kind: api.NodeGetter, Kids: []int{0, 5}},
		{Kind: api.NodeObject, Kids: []int{6}},
		{Kind: api.NodeExpr, Kids: []int{7}},
		{Kind: api.NodeScript, Kids: []int{8}},
	}
	bindings, uses := read(t, l)
	if len(bindings) != 1 || bindings[0] != (api.Binding{Name: "f", Kind: api.BindSelf, Node: 5, Scope: 5, Func: 5}) {
		t.Errorf("%v", bindings)
	}
	if len(uses) != 1 || uses[0] != (api.Use{Node: 2, Bind: 0, Func: 5}) {
		t.Errorf("%v", uses)
	}
}
