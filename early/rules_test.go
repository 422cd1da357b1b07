package early_test

import (
	"slices"
	"testing"

	"lintel/api"
	"lintel/early"
	"lintel/parse"
)

// told is a node that a rule tells.
type told struct{ rule, node int }

func all(l []api.Node) []told {
	var out []told
	for rule, n := range early.All(l) {
		out = append(out, told{rule, n})
	}
	return out
}

// parsed is the tree of a source.
func parsed(t *testing.T, src string) []api.Node {
	t.Helper()
	l, at, e := parse.Script(src)
	if e != api.OK {
		t.Fatalf("%q: no script: %d, error %d", src, at, e)
	}
	return l
}

// mark is a place at which a rule tells a node.
type mark struct{ rule, at int }

// unmarked takes the marks out of a source: @ and a rule's number, ahead of what that rule tells.
func unmarked(marked string) (src string, marks []mark) {
	for i := 0; i < len(marked); i++ {
		if marked[i] == '@' {
			i++
			marks = append(marks, mark{int(marked[i] - '0'), len(src)})
			continue
		}
		src += marked[i : i+1]
	}
	return src, marks
}

// tellable is which kinds of nodes a rule tells.
func tellable(rule int) []int {
	switch rule {
	case 1:
		return []int{api.NodeInit, api.NodeFun, api.NodeName, api.NodeRest}
	case 2:
		return []int{api.NodeInit}
	case 3, 4:
		return []int{api.NodeBreak, api.NodeContinue}
	case 5:
		return []int{api.NodeLabel}
	case 6:
		return []int{api.NodeReturn}
	case 7:
		return []int{api.NodeInit, api.NodeFun, api.NodeFunc, api.NodeName, api.NodeRest, api.NodeTry}
	case 8:
		return []int{api.NodeName}
	}
	return []int{api.NodeUnary}
}

// hold asks for what is wrong with sources in which marks stand.
func hold(t *testing.T, sources ...string) {
	t.Helper()
	for _, marked := range sources {
		src, want := unmarked(marked)
		l := parsed(t, src)
		var got []mark
		for _, x := range all(l) {
			got = append(got, mark{x.rule, l[x.node].At})
			if !slices.Contains(tellable(x.rule), l[x.node].Kind) {
				t.Errorf("%q: rule %d tells a node of kind %d", marked, x.rule, l[x.node].Kind)
			}
		}
		if !slices.Equal(got, want) {
			t.Errorf("%q: rules and places %v, not %v", marked, got, want)
		}
		holdCheck(t, marked, l, want)
	}
}

// holdCheck asks Check for the least place of the marks.
func holdCheck(t *testing.T, marked string, l []api.Node, marks []mark) {
	t.Helper()
	wantAt, wantE := 0, api.OK
	for i, m := range marks {
		if i == 0 || m.at < wantAt {
			wantAt, wantE = m.at, api.ErrEarly
		}
	}
	if at, e := early.Check(l); at != wantAt || e != wantE {
		t.Errorf("Check(%q): %d, error %d, not %d, error %d", marked, at, e, wantAt, wantE)
	}
}

// P9.1: the document's examples.
func TestExamples(t *testing.T) {
	for _, x := range []struct {
		src string
		at  int
	}{
		{"let a; let a;", 11}, {"{ function f() {} let f; }", 22}, {"try {} catch (e) { let e; }", 23},
		{"a: a: ;", 3}, {"while (1) { break x; }", 12},
	} {
		if at, e := early.Check(parsed(t, x.src)); at != x.at || e != api.ErrEarly {
			t.Errorf("%q: %d, error %d", x.src, at, e)
		}
	}
}

// P9.1, P9.2: rule 1, names of a scope that are alike.
func TestTwins(t *testing.T) {
	hold(t,
		"", "let a, b; const c = 1; function d() {}", "let a; { let a; } { let a; }", "let a; let @1a;", "let a, @1a, @1a;", "let a; const @1a = 1;", "const a = 1; @1function a() {}",
		"function a() {} let @1a;", "function a() {} @1function a() {}", "let a = b, b = a;", "{ let a; let @1a; }", "{ function f() {} let @1f; }", "let a, A;", "let a, aa;",
		"let a; function f() { let a; }", "function f(a) { let @1a; }", "function f(a) { @1function a() {} }", "function f(a) { { let a; } }", "function f(a, @1a) {}",
		"function f(a, @1...a) {}", "function f(a, b, ...c) { let d; }", "function f(...a) { const @1a = 1; }", "function f(f) {}", "function f() { let f; }", "function f(a, b, @1a, @1b) { let @1b, @1a; }",
		"(function f(f) { });", "(function f() { let f; });", "(function (a, @1a) {});", "(function (a) { let @1a; });", "a => a;", "(a, @1a) => a;", "(a, @1...a) => { let @1a; };", "a => { let @1a; };", "a => { { let a; } };",
		"a => b => { let a; let @1b; };", "a => (a => a);", "({ a(b, @1b) {}, c(b) { let @1b; }, set d(e) { let @1e; }, get f() { let g, @1g; } });", "({ a(a) {} });", "({ a: 1, a: 2 });",
		"try {} catch (e) { let @1e; }", "try {} catch (e) { let @1e, @1e; }", "try {} catch (e) { @1function e() {} }", "try {} catch (e) { const @1e = 1; }", "try {} catch (e) { { let e; } }", "try { let e; } catch (e) {} finally { let e; }",
		"let e; try {} catch (e) {}", "try {} catch (e) { try {} catch (e) { let @1e; } }", "try {} catch (e) { f = e => e; }", "try { let a, @1a; } finally { let a, @1a; }", "try {} catch (e) { a; let b; }", "try {} catch (e) { let f; let @1f; }",
		"switch (a) { case 1: let b; case 2: let @1b; default: let @1b; }", "switch (a) { case 1: let b; default: { let b; } }", "let a; switch (a) { case a: let a; }", "switch (a) { default: function f() {} case 1: @1function f() {} }",
		"switch (a) { case () => { let b; }: let b; }", "switch (a) { case 1: switch (b) { case 1: let c; } let c; }", "switch (a) { case 1: let b, @1b; }",
		"for (let a, @1a; ; ) ;", "for (let a; ; ) { let a; }", "let a; for (let a; ; ) ;", "for (let a; ; ) for (let a; ; ) ;", "for (const a = 1, @1a = 2; ; ) ;", "for (let a of b) { let a; }", "for (const a in b) { let a; }",
		"for (let a of a) { let b, @1b; }", "for (let a; ; ) { function a() {} @1function a() {} }", "for (let a; ; ) (a => { let @1a; });", "if (a) { let b; } else { let b; }", "while (a) { let b, @1b; }", "do { let b, @1b; } while (c);", "a: { let a; let @1a; }",
		"let a = () => { let b, @1b; }, @1a;", "let a = () => { let a; }; let @1a = a;", "let a; function b(c, @1c) { let a; { let c, @1c; } } let @1b;",
	)
}

// P9.1, P9.2: rule 2, a const without a value.
func TestConsts(t *testing.T) {
	hold(t,
		"const a = 1;", "const @2a;", "const a = 1, @2b, c = 2, @2d;", "let a;", "for (const @2a; ; ) ;", "for (const a = 1, @2b; ; ) ;", "for (const a in b) ;", "for (const a of b) ;", "for (const a of b) { const @2c; }", "for (const a in () => { const @2b; }) ;",
		"{ const @2a; }", "function f() { const @2a; }", "switch (a) { case 1: const @2b; default: const @2c; }", "const a = () => { const @2b; };", "try {} catch (e) { const @2a; }", "const a = undefined;",
	)
	// The least of the rules that tell a node is told.
	hold(t, "let a; const @1a;", "const @2eval;", "const @2a, @1a;", "const @2arguments, @1arguments;")
}

// P9.1, P9.2: rule 3, jumps without a label.
func TestJumps(t *testing.T) {
	hold(t,
		"@3break;", "@3continue;", "{ @3break; }", "if (a) @3break; else @3continue;", "a: @3break;", "a: { @3continue; }", "try { @3break; } catch (e) { @3continue; } finally { @3break; }",
		"while (1) break;", "while (1) continue;", "do break; while (1);", "do continue; while (1);", "for (; ; ) break;", "for (; ; ) continue;", "for (a in b) break;", "for (a in b) continue;", "for (a of b) break;", "for (a of b) continue;",
		"for (let a of b) { if (c) { break; } else continue; }", "switch (a) { case 1: break; default: break; }", "switch (a) { case 1: @3continue; default: @3continue; }", "switch (a) { default: { break; } }", "while (1) switch (a) { case 1: continue; default: break; }",
		"switch (a) { case 1: while (1) continue; @3continue; }", "while (1) ; @3break;", "while (1) { } @3continue;", "while (1) { () => { @3break; } }", "while (1) { () => { @3continue; } }", "while (1) { function f() { @3break; @3continue; } }",
		"while (1) { (function () { @3break; }); }", "while (1) { ({ a() { @3break; }, get b() { @3continue; }, set c(d) { @3break; } }); }", "switch (a) { default: () => { @3break; }; }", "function f() { while (1) { break; continue; } @3break; }",
		"() => { for (; ; ) { continue; } };", "while (() => { @3break; }) break;", "switch (() => { @3continue; @3break; }) { default: break; }", "for (; () => { @3break; }; ) ;", "while (1) { try { break; } catch (e) { continue; } finally { break; } }",
		"while (1) a: break;", "while (1) a: { continue; }", "while (1) { (() => { while (1) break; @3break; }); break; }", "switch (a) { } @3break;",
	)
}

// P9.1, P9.2: rule 4, jumps with a label.
func TestLabelled(t *testing.T) {
	hold(t,
		"@4break a;", "@4continue a;", "while (1) { @4break x; }", "while (1) { @4continue x; }", "a: break a;", "a: { break a; }", "a: @4continue a;", "a: { @4continue a; }", "a: while (1) continue a;", "a: while (1) break a;", "a: do continue a; while (1);",
		"a: for (; ; ) continue a;", "a: for (b in c) continue a;", "a: for (b of c) continue a;", "a: for (let b of c) { { break a; } continue a; }", "a: b: while (1) { continue a; continue b; }", "a: b: c: do { continue a; continue c; break b; } while (1);", "a: b: { break a; break b; @4continue a; @4continue b; }",
		"a: { while (1) { @4continue a; } }", "a: { b: while (1) { @4continue a; continue b; break a; } }", "a: if (b) while (1) @4continue a;", "a: switch (b) { case 1: @4continue a; default: break a; }", "a: while (1) switch (b) { case 1: continue a; default: break a; }", "a: try { break a; } catch (e) { @4continue a; } finally { break a; }",
		"a: ; @4break a;", "a: while (1) ; @4continue a;", "a: { } { @4break a; }", "@4break a; a: ;", "a: while (1) { () => { @4break a; @4continue a; }; }", "a: while (1) { function f() { @4break a; @4continue a; } }", "a: while (1) { ({ b() { @4break a; } }); }", "a: { (function () { a: break a; }); }", "a: while (() => { @4break a; }) ;",
		"a: while (1) b: { @4continue b; continue a; }", "a: while (1) { b: { break a; } @4break b; }", "a: while (1) { b: for (; ; ) { c: do { continue a; continue b; continue c; @4continue d; } while (1); } }", "A: { @4break a; }", "eval: while (1) continue eval;", "arguments: { break arguments; }",
	)
}

// P9.1, P9.2: rule 5, labels within labels of the same name; of two of them a jump means the nearer one.
func TestLabelsTwice(t *testing.T) {
	hold(t,
		"a: b: c: ;", "a: @5a: ;", "a: @5a: @5a: ;", "a: b: @5a: ;", "a: { @5a: ; }", "a: { { if (b) @5a: ; } }", "a: while (1) @5a: ;", "a: ; a: ;", "a: { } { a: ; } a: { b: ; }", "a: { b: ; b: ; }", "a: switch (b) { default: @5a: ; }", "a: try { @5a: ; } catch (e) { @5a: ; } finally { @5a: ; }",
		"a: () => { a: ; };", "a: { function f() { a: ; } }", "a: (function () { a: @5a: ; });", "a: ({ b() { a: ; } });", "a: { () => { a: ; }; @5a: ; }", "a: { let a; }", "() => { a: { @5a: ; } };", "a: if (b) @5a: ; else @5a: ;", "a: for (let b of c) d: @5a: { @5d: ; }",
		"a: while (1) { @5a: { break a; @4continue a; } continue a; }", "a: { @5a: while (1) { continue a; } @4continue a; }", "a: @5a: while (1) continue a;",
	)
}

// P9.1, P9.2: rule 6, return outside of functions.
func TestReturns(t *testing.T) {
	hold(t,
		"@6return;", "@6return 1;", "{ @6return; }", "while (1) @6return;", "if (a) @6return; else @6return 1;", "a: @6return;", "try { @6return; } catch (e) { @6return; } finally { @6return; }", "switch (a) { case 1: @6return; default: @6return; }", "for (; ; ) { @6return; }",
		"function f() { return; }", "function f() { while (1) { a: { return 1; } } }", "() => { return; };", "a => { if (a) return a; };", "(function () { return; });", "({ a() { return; }, get b() { return 1; }, set c(d) { return; } });", "function f() { () => { return; }; return; } @6return;", "@6return () => { return; };",
		"function f() { switch (a) { case 1: return; } try { return; } finally { return; } }",
	)
}

// P9.1, P9.2: rule 7, eval and arguments as names and targets.
func TestNamed(t *testing.T) {
	hold(t,
		"let @7eval;", "let @7arguments;", "const @7eval = 1;", "const @7arguments = 1;", "@7function eval() {}", "@7function arguments() {}", "(@7function eval() {});", "(@7function arguments() {});", "function f(@7eval) {}", "function f(a, @7arguments) {}", "function f(@7...eval) {}", "function f(a, @7...arguments) {}", "(function (@7eval) {});",
		"@7eval => 1;", "@7arguments => 1;", "(a, @7eval) => 1;", "(@7...arguments) => 1;", "({ a(@7eval) {}, set b(@7arguments) {} });", "({ eval() {}, arguments() {}, get eval() {}, set arguments(a) {} });", "@7try {} catch (eval) {}", "@7try {} catch (arguments) {}", "@7try {} catch (eval) { let @1eval; }",
		"for (let @7eval; ; ) ;", "for (const @7arguments = 1; ; ) ;", "for (let @7eval of a) ;", "for (const @7arguments in a) ;", "for (@7eval of a) ;", "for (@7arguments of a) ;", "for (@7eval in a) ;", "for (@7arguments in a) ;", "for (a of eval) ;", "for (a in eval) eval;", "for (eval; eval; eval) eval;",
		"@7eval = 1;", "@7arguments = 1;", "(@7eval) = 1;", "@7eval += 1;", "@7eval **= 1;", "@7eval >>>= 1;", "@7arguments |= 1;", "@7eval++;", "@7eval--;", "@7arguments++;", "@7arguments--;", "++@7eval;", "--@7eval;", "++@7arguments;", "--@7arguments;", "++(@7eval);", "a = @7eval = 1;", "@7eval = eval;",
		"eval;", "eval(1);", "eval.a = 1;", "eval[0] = 1;", "a[eval] = 1;", "a.eval = 1;", "a.arguments = 1;", "++a.eval;", "a.arguments--;", "eval.a++;", "a = eval;", "a += eval;", "typeof eval;", "-eval;", "new eval;", "[eval, ...eval];", "({ eval });", "({ eval: 1, arguments: 2 });", "`${eval}`;", "eval: ;", "arguments: ;", "evals = 1;", "Eval = 1;", "argument = 1;",
		"let @7eval; { let @7eval; }", "let @7eval; let @1eval;", "@7function eval(@7eval, @7arguments) { let @1eval; }", "(@7function eval() { @7eval = 1; });", "let a = @7eval = 1;", "switch (eval) { case eval: let @7eval; }", "throw eval;",
	)
}

// P9.1, P9.2: rule 8, arguments as any other name.
func TestArguments(t *testing.T) {
	hold(t,
		"@8arguments;", "print(@8arguments);", "@8arguments();", "new @8arguments;", "@8arguments[0];", "@8arguments.length;", "@8arguments.a = 1;", "@8arguments[0]++;", "a = @8arguments;", "@7arguments = @8arguments;", "typeof @8arguments;", "({ @8arguments });", "({ [@8arguments]: 1 });", "({ arguments: @8arguments });", "[...@8arguments];", "`${@8arguments}`;",
		"function f() { @8arguments; }", "function f() { return @8arguments; }", "() => @8arguments;", "for (a of @8arguments) @8arguments;", "for (a in @8arguments) ;", "for (@8arguments; @8arguments; @8arguments) ;", "if (@8arguments) ;", "a ? @8arguments : @8arguments;", "@8arguments, @8arguments;", "'arguments';", "a.arguments;",
		"let a = @8arguments;", "throw @8arguments;", "switch (@8arguments) { case @8arguments: ; }", "do ; while (@8arguments);", "arguments: while (1) { break arguments; continue arguments; }", "(@8arguments);", "@8arguments + eval;", "Arguments; argumentss;", "@7try {} catch (arguments) { @8arguments; }",
	)
}

// P9.1, P9.2: rule 9, delete of a name.
func TestDeletes(t *testing.T) {
	hold(t,
		"@9delete a;", "@9delete (a);", "@9delete ((a));", "delete a.b;", "delete a[b];", "delete a();", "delete 1;", "delete this;", "delete -a;", "delete @9delete a;", "delete (a, b);", "delete (a = b);", "delete new a;", "delete [a];", "delete typeof a;", "delete a++;", "typeof a; void a; !a; -a; +a; ~a;", "@9delete eval;", "@9delete @8arguments;", "@9delete print;",
		"delete a[@9delete b];", "() => @9delete a;", "let a; @9delete a;", "delete `a`;", "delete (a ? b : c);", "delete (() => a);", "delete function () {};",
	)
}

// P9.1: of several that are told the least place is answered, whichever rule it is.
func TestLeastPlace(t *testing.T) {
	hold(t, "@9delete a; let b, @1b;", "@6return; @3break; @4continue a; let @7eval; @9delete a; @8arguments;", "a: @5a: @3break; const @2b; let @1b;", "a: for (const b of c) { switch (b) { case 1: let d; break; default: continue a; } }")
	l := parsed(t, "delete a; return;")
	for i := range l {
		l[i].At = 9
		if l[i].Kind == api.NodeReturn {
			l[i].At = 0
		}
	}
	if at, e := early.Check(l); at != 0 || e != api.ErrEarly {
		t.Errorf("%d, error %d", at, e)
	}
}
