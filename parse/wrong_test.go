package parse_test

import (
	"strings"
	"testing"

	"lintel/api"
	"lintel/parse"
)

// holdWrong asks read for the trees of sources in which an @ stands ahead of the token that no script goes on with.
func holdWrong(t *testing.T, read func(string) ([]api.Node, int, api.Errno), sources ...string) {
	t.Helper()
	for _, marked := range sources {
		ahead, behind, ok := strings.Cut(marked, "@")
		if l, at, e := read(ahead + behind); !ok || l != nil || at != len(ahead) || e != api.ErrSyntax {
			t.Errorf("%q: %d nodes, %d, error %d", marked, len(l), at, e)
		}
	}
}

// P8.1: what no statement begins or goes on with.
func TestWrongStatements(t *testing.T) {
	holdWrong(t, parse.Script,
		"@}", "a @}", "{ a @", "{ a; @)", "{@", "{ {} @", "a @b", "a @let", "a; @else", "{} @else", "@class A {}", "@var a", "@import a", "@export a", "@debugger", "@with (a) b", "@yield", "@super", "@static", "@enum",
		"@case a:", "@default:", "@catch", "@finally", "@in a", "@=> a", "@) a", "@, a", "@. a", "@: a", "@? a", "@* a", "@/ a", "@/a/", "@= a", "@instanceof a", "@... a", "of => @",
	)
}

// P8.1: let, const and functions.
func TestWrongDeclarations(t *testing.T) {
	holdWrong(t, parse.Script,
		"let@", "let @let", "let @1", "let @[a] = b", "let @{a} = b", "let @;", "let a @b", "let a = @", "let a = @;", "let a, @", "let a, @;", "let a = 1 @2", "let a @+ b", "let a @+= b", "const @if", "let a = b @c", "let a = b, c@.d", "let a = b, @1",
		"let @= a", "let @(a)", "let a = b = c @d", "let a@.b = c", "const @function", "let a\n= @", "let a =\n@",
		"function @", "function @(", "function @() {}", "function f@", "function f@{", "function f(@1) {}", "function f(a @b) {}", "function f(a, @) {}", "function f(@, a) {}", "function f(...a@, b) {}", "function f(...a@, ...b) {}", "function f(...@) {}",
		"function f(a @= 1) {}", "function f() @a", "function f() @;", "function f() {@", "function f() @=> a", "function @if() {}", "function f(@[a]) {}", "function f(...@[a]) {}", "function @* f() {}", "function f(@this) {}", "function f(a@", "function f(@",
		"function f(a, ...@)", "function @let() {}", "function f() {} @.a", "function f() {} @= a", "function f() {} ()@",
	)
}

// P8.1: bodies, and what has them.
func TestWrongBodies(t *testing.T) {
	holdWrong(t, parse.Script,
		"if @a", "if (@) b", "if (a @b", "if (a@; b) c", "if (a) @", "if (a) @let b", "if (a) @let b;", "if (a) @const b = 1", "if (a) @function f() {}", "if (a) b; else @let c", "if (a) b; else @const c = 1", "if (a) b; else @function f() {}", "if (a) b @else c",
		"if (a) @else b", "if (a) b: @let c", "if (a) b: c: @function f() {}", "if (a) ; else ; @else ;", "if (a) {} else {} @else {}", "if (a)\n@let\nb", "if (a) @}", "if (a) b; else @", "if (a) if (b) c; else d; else e; @else f",
		"while @", "while (@) a", "while (a) @let b", "while (a) @", "while (a) b: @const c", "while (a) @function f() {}", "while (a@",
		"do @", "do a @while (b)", "do a; @b", "do a; while @b", "do @let a; while (b)", "do @function f() {} while (a)", "do ; while (a@;", "do ; @", "do a: @let b; while (c)", "do {} @", "do ; while (@)", "do ; while (a) @)",
		"a: @", "a: @let b", "a: @const b = 1", "a: @function f() {}", "a: b: @let c", "a: @}", "(a)@: b", "if@: a", "a.b@: c", "1@: a", "a: @: b", "a, b@: c", "{ a: @}",
	)
}

// P8.1: the kinds of for.
func TestWrongFors(t *testing.T) {
	holdWrong(t, parse.Script,
		"for @a", "for (@)", "for (a@)", "for (;@)", "for (;;@", "for (;;) @let a", "for (;;) @const a = 1", "for (;;) @function f() {}", "for (;;) @", "for (a; b@)", "for (a; b; c@; d) e", "for (;;@;) a", "for (let @;;) a", "for (let a@)", "for (let a = @;;) b", "for (let a, @;;) b",
		"for (let a, b @of c) d", "for (let a = 1 @of b) c", "for (let a = 1 @in b) c", "for (let a, b @in c) d", "for (let @in b) c", "for (let of @x) c", "for (let of@) a", "for (const a of @) b", "for (a in @) b", "for (a of b@, c) d", "for (let a of b@, c) d", "for (a in b@; c; d) e",
		"for (let a in b@; c; d) e", "for (a of b@; c; d) e", "for (a.b @of c) d", "for (a.b @in c) d", "for (a[b] @in c) d", "for ((a) @of b) c", "for ((a) @in b) c", "for (1 @in b) c", "for ([a] @of b) c", "for ({a} @of b) c", "for (let @[a] of b) c", "for (a + b @in c; ;) d", "for (a = b @in c; ;) d",
		"for (a => b @in c; ;) d", "for (a => {} @in c; ;) d", "for (a ? b : c @in d; ;) e", "for (let a = b => c @in d; ;) e", "for (let a = b ? c : d @in e; ;) f", "for (let a = b, c = d @in e; ;) f", "for (a, b @in c; ;) d", "for (a, b @of c) d", "for (a in b @of c) d", "for (a of @=> b; ;) c", "for (of of @; ;) a",
		"for (a\n@b; ;) c", "for (a\n@) c", "for (let a of b) @const c = 1", "for (a in b) c: @let d", "for (a of b) @function f() {}", "for (!a @in b; ;) c", "for (a @b of c) d", "for (let a @b of c) d", "for (new a @in b; ;) c", "for (a++ @in b; ;) c", "for (@var a; ;) b", "for (a || b @in c; ;) d", "for (a == b @in c; ;) d",
		"for (a < b @in c; ;) d", "for (a & b @in c; ;) d", "for (a << b @in c; ;) d", "for (a ** b @in c; ;) d", "for (() => a @in b; ;) c", "for (a = b = c @in d; ;) e", "for (a; b; c @d) e", "for (a\n;\n;@;", "for (let a\n@b; ;) c", "for @each (a) b", "for (of @b) c", "for (a of b @c) d", "for (a of b in c@; ;) d",
	)
}

// P8.1: what leaves, try and switch.
func TestWrongLeaves(t *testing.T) {
	holdWrong(t, parse.Script,
		"break @1", "break a @b", "break @if", "break @+", "continue @(a)", "continue a@.b", "continue a @a", "break a@, b", "break @let", "continue @'a'", "break a@: b",
		"return a @b", "return @)", "return @class", "return @let", "return a@: b", "return @if", "throw@", "throw @;", "throw\n@a", "throw @}", "{ throw @}", "throw a @b", "throw /*\n*/ @a", "throw // a\n@a", "throw @let", "throw\n@;", "throw\u2028@a", "throw\r\n@a",
		"try @a", "try @;", "try {} @", "try {} @a", "try {}\n@a", "try {} @;", "try {} @}", "{ try {} @}", "try {} catch @{}", "try {} catch (@) {}", "try {} catch (a@, b) {}", "try {} catch (a) @", "try {} catch (a) @b", "try {} catch (@1) {}", "try {} catch (@[a]) {}", "try {} finally @", "try {} finally @a", "try {} finally {} @catch (a) {}",
		"try {} finally {} @finally {}", "try {} catch (a) {} @catch (b) {}", "try {} catch (@let) {}", "try {} catch (a@.b) {}",
		"switch @", "switch (@) {}", "switch (a) @b", "switch (a) { @b }", "switch (a) { @; }", "switch (a) { case @: }", "switch (a) { case b @c }", "switch (a) { default @b }", "switch (a) { default@; }", "switch (a) { default: b; @default: c }", "switch (a) { default: case b: @default: }",
		"switch (a) { case b: default: c\n@default: d }", "switch (a) { default: { @default: } }", "switch (a) { case b: @", "switch (a) {@", "switch (a) { case b: c; @)", "switch (a) { case b ? c : d @}", "switch (a) { case b: c @case d: }", "switch (a) { case b: c @default: }", "switch (a) { @{} }", "switch (a) { case b: {} @else }",
	)
}

// P8.1: what stands in brackets.
func TestWrongLists(t *testing.T) {
	holdWrong(t, parse.Script,
		"a + @", "a +@;", "a @1", "1 @a", "'a' @'b'", "a @`b`", "a @`b${c}d`", "a.@", "a@.1", "a. @1", "a.@[b]", "a.@'b'", "a.@.b", "a[@]", "a[b @c]", "a[b@", "a[b@)", "a(@,)", "a(b@", "a(b @c)", "a(b, @)", "a(...@)", "a(b, ...c@;", "a(b@]", "a(@;)",
		"[@,]", "[a,@,]", "[a,@, b]", "[a@", "[a @b]", "[...@]", "[...@,]", "[a@;]", "[a@)", "[@", "[a, ... @...b]", "(@", "(a@", "(a @b)", "(a@;)", "(a,@)", "(a, @;", "1 + (@)", "- (@)", "(a@]", "(a)@)", "a@]",
		"({@,})", "({a@", "({a @b})", "({a: @})", "({a: b@; c})", "({a: b, @,})", "({if@})", "({if@, a})", "({'a'@})", "({1@})", "({1@, a})", "({[a]@})", "({[@]: 1})", "({[a@, b]: 1})", "({a @= 1})", "({a@.b})", "({@(a)})", "({@...a})", "({@*a() {}})", "({a: b @c})", "({a@;})", "({this@})", "({@`a`: 1})", "({a, b: @",
		"({get @= 1})", "({get a@: 1})", "({get a@})", "({get a@, b})", "({get a(@b) {}})", "({get a(@...b) {}})", "({get a(@, b) {}})", "({get a() @b})", "({get a() @})", "({get a() @=> b})", "({get 1@})", "({get [a]@: 1})", "({get @.a})", "({get get@})", "({get [@]() {}})",
		"({set a(@) {}})", "({set a(@...b) {}})", "({set a(b@, c) {}})", "({set a(b@, ...c) {}})", "({set a(b@,) {}})", "({set a(@1) {}})", "({set a(b @= 1) {}})", "({set a(b) @})", "({set a@: 1})", "({set @= 1})", "({set set@})", "({set a(@[b]) {}})", "({set a(@, b) {}})",
		"({a(b @c) {}})", "({a() @=> 1})", "({a() @})", "({a(@1) {}})", "({a(b,@) {}})", "({async @a() {}})", "({a() {} @b() {}})", "({a() {}@; b() {}})", "({a() {@", "({get a() {} @.b})",
		"(function @1", "(function a@.b", "(function @) ", "(function() @=> 1)", "(function(a, @) {})", "(function @if() {})", "(function@* a() {})", "(function a(@1) {})", "(function() {}@", "(function() {} @a)",
		"`${@}`", "`${a @b}`", "`${a@", "`${(a@}`", "`a${b}c${@}`", "`${a@; b}`", "`${[a@}`", "`${a}${b @c}d`", "`${a} `@b", "`a` @`b`", "`${`${@}`}`", "`${@...a}`", "`${@let a}`",
		"new @", "new @-a", "new @;", "new @.target", "new a.@", "new a[@]", "new a(@,)", "new a(b, @)", "new @typeof a", "new new @", "new @++a", "new a @b", "new new@", "new @...a", "new a() @b",
	)
}

// P8.1: arrows, and what is none. A rest, or parameters without a name, can be nothing but an arrow's;
// what could be an expression in parentheses goes on as one up to the =>.
func TestWrongArrows(t *testing.T) {
	holdWrong(t, parse.Script,
		"a => @", "a => @;", "a\n@=> b", "(a)\n@=> b", "()\n@=> b", "(a, b)\n@=> c", "(a, ...b)\n@=> c", "(...a) /*\n*/ @=> b", "() @+ a", "()@", "()@;", "() @{}", "()@.a", "()@()", "(@,) => a", "(a,@) => b", "(a, ...b@, c) => d", "(a, ...b) @+ c", "(...a)@;", "(...a)@", "(...a @= b) => c", "(...a@.b) => c",
		"(a, ...@) => b", "(a, ...@[b]) => c", "(...@1) => a", "(... @...a) => b", "(a, 1, @...b) => c", "((a), @...b) => c", "(a.b, @...c) => d", "(a = 1, @...b) => c", "(a = 1) @=> b", "((a)) @=> b", "(1) @=> a", "(a, 1) @=> b", "([a]) @=> b", "({a}) @=> b", "(this) @=> b", "(a, this) @=> b", "(a.b) @=> c", "(a, b + c) @=> d",
		"a + b @=> c", "-a @=> b", "-(a) @=> b", "-(@) => a", "a + (b) @=> c", "a + (b, c) @=> d", "a + (@) => c", "a + (@...b) => c", "a + (b, @...c) => d", "a.b @=> c", "a() @=> b", "a(b) @=> c", "a(b, ...c) @=> d", "new a @=> b", "new (a) @=> b", "new (@) => a", "new (a, @...b) => c", "typeof a @=> b", "a || b @=> c", "a || (@) => b", "a ** b @=> c", "++a @=> b",
		"(a) => {} @+ b", "a => {} @.b", "a => {} @(b)", "a => {} @[b]", "a => {} @? b : c", "a => {} @= b", "a => {} @`b`", "a => {} @=> b", "a => {} @b", "a => {} @in b", "a => {} @++", "a => (b) @c", "a => {@", "a => { b: @}", "a => {}\n@* b", "a => {}\n@=> b", "() => {} @|| a", "(a => b) @=> c", "a ? () @: b", "a ? (b) : c @d", "a ? b => c @;",
		"a\n(b, ...c) @=> d", "a\n(b) @=> c", "@yield => a", "(a, @yield) => b", "(a, @if) => b", "async @a => b", "async (a) @=> b", "(a, b) + c @=> d", "(a, b)(c) @=> d", "if (a) () @b", "f(() @+ a)", "[(a, ...b) @]", "x = (a, ...b) @, c", "'a' @=> b", "1 @=> a",
	)
}

// P8.1: targets that are none, with the place of the operator, and bases of ** that are none.
func TestWrongTargets(t *testing.T) {
	holdWrong(t, parse.Script,
		"1 @= 2", "a + b @= 1", "a() @= 1", "-a @= 1", "a ? b : 1 @= 2", "(a, b) @= 1", "(a = 1) @= 2", "new a @= 1", "new a.b @= 1", "this @= 1", "[a] @= b", "({a}) @= b", "({a} @= b)", "{a} @= b", "`a` @= 1", "(a => b) @= 1", "a++ @= 1", "++a @= 1", "'a' @+= 1", "null @= 1", "a || b @= c", "(a || b) @= c", "a = b + c @= d",
		"(function() {}) @= 1", "a ** b @= c", "typeof a @= b", "(-a) @= b", "1\n@= 2", "a() @-= b", "a() @*= b", "a() @/= b", "a() @%= b", "a() @**= b", "a() @<<= b", "a() @>>= b", "a() @>>>= b", "a() @&= b", "a() @|= b", "a() @^= b", "a = @", "a = @= b", "(a) = @;", "[a, b + @= c]",
		"1@++", "a()@++", "(a, b)@++", "a++ @++", "this@--", "new a@++", "a + 1@++", "'a'@--", "(a + b)@++", "a ++ @--", "@++a ++", "[]@++", "({})@--", "(a => b)@++", "1 @-- + a",
		"@++1", "@++a()", "@++a++", "@++ ++a", "@-- -a", "@++(a, b)", "@++new a", "@++this", "a + @++1", "@++1 b", "a = @--'b'", "[@++1, b c]", "++(a @b)", "++@", "++@;", "++-@", "@++typeof a", "1\n++@", "++\n@", "a\n++@", "@++function() {}", "@++(a = b)", "@++(a => b)", "++ @++ ++ a", "!@--1", "@++1 ** 2", "@++a() = 1", "++@=> a", "++@)", "@++`a`",
		"-a @** b", "typeof a @** b", "void a @** b", "+a @** b", "~a @** b", "!a @** b", "delete a.b @** c", "a ** -b @** c", "- ++a @** b", "-a\n@** b", "a + -b @** c", "(a) ** @", "@** a", "+(a) @** b", "-a @** ", "-a.b @** c", "- -a @** b", "a * -b @** c", "-(a) @** b", "-a() @** b", "-a++ @** b", "a ** @;", "a ** @** b",
		"a ? @", "a ? b@", "a ? b @;", "a ? b : @", "a ? b@, c : d", "a ? @: b", "a ? b @c", "a ? @? b", "a ? b : c @: d",
		"a || @", "a && @&& b", "a | @;", "a == @=", "a < @)", "a in @", "a instanceof @]", "a, @", "a,@;", "delete @", "typeof @;", "! @= a", "- @* a", "a * @/ b",
	)
}

// P8.2: what no expression alone goes on with.
func TestWrongExpr(t *testing.T) {
	holdWrong(t, parse.Expr, "@", " @", "a@;", "a @b", "a\n@b", "{} @{}", "@let a", "@if (a) b", "a@: b", "{a: b@;}", "@;", "@return", "{a@; b}", "{@;}", "a@; b", "function f() {} @function g() {}", "function f() {}\n@a", "a,@", "@}", "(a)\n@=> b", "()@", "a @}", "-a @** b", "@++1", "1 @= 2", "// a\n@", "@const a = 1", "@class {}", "{a} @= b")
}

// P8.1: lex's errors, and their places, ahead of all others.
func TestWrongTokens(t *testing.T) {
	deep := strings.Repeat("(", api.MaxNest+1)
	for _, read := range []func(string) ([]api.Node, int, api.Errno){parse.Script, parse.Expr} {
		for _, c := range []struct {
			src string
			at  int
			e   api.Errno
		}{
			{"#", 0, api.ErrToken}, {"a; 08", 3, api.ErrToken}, {") 'a", 2, api.ErrToken}, {"a b /*", 4, api.ErrToken}, {"`a", 0, api.ErrToken}, {"a = 1a", 4, api.ErrToken}, {deep + "#", len(deep), api.ErrToken},
			{"a\xff", 1, api.ErrUTF}, {") \xed\xa0\x80", 2, api.ErrUTF}, {"# \xff", 2, api.ErrUTF}, {deep + "\xff", len(deep), api.ErrUTF},
			{strings.Repeat(" ", api.MaxSource+1), 0, api.ErrLong}, {") \xff" + strings.Repeat(" ", api.MaxSource), 0, api.ErrLong},
		} {
			if l, at, e := read(c.src); l != nil || at != c.at || e != c.e {
				t.Errorf("%.20q: %d nodes, %d, error %d", c.src, len(l), at, e)
			}
		}
	}
}
