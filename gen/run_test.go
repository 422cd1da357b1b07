package gen_test

import (
	"strings"
	"testing"

	"lintel/api"
)

// holdRuns asks for the traces of sources: those of their modules, and, so that the tests' own walker is held to the same, of their trees.
// A trace's lines are put together by " | "; behind them stands, of what is thrown, "throws" and its name.
func holdRuns(t *testing.T, l [][2]string) {
	t.Helper()
	for _, x := range l {
		nodes := parsed(t, x[0])
		m := made(t, x[0], nodes)
		for about, o := range map[string]outcome{"module": runModule(m, newWorld(100000, "one", "two")), "tree": runTree(nodes, newWorld(100000, "one", "two"))} {
			got := strings.Join(o.Trace, " | ")
			switch o.End {
			case api.EndThrow:
				got += " throws " + o.Value
			case api.EndNormal:
			default:
				got += " ends otherwise"
			}
			if strings.TrimSpace(got) != x[1] {
				t.Errorf("%s\n%s: %q, not %q (end %d, %s)", x[0], about, got, x[1], o.End, o.why)
			}
		}
	}
}

// P13.1: literals, operators, templates.
func TestValues(t *testing.T) {
	holdRuns(t, [][2]string{
		{"print(1, 'a', true, false, null, undefined, NaN, this);", "1 a true false null undefined NaN undefined"},
		{"print(1 + 2, 7 - 2, 3 * 4, 9 / 2, 9 % 4, 2 ** 10, 1 << 4, -9 >> 1, -1 >>> 28, 6 & 3, 6 | 3, 6 ^ 3);", "3 5 12 4.5 1 1024 16 -5 15 2 7 5"},
		{"print(1 < 2, 1 > 2, 2 <= 2, 1 >= 2, 1 == '1', 1 != '1', 1 === '1', 1 !== '1', 'a' in { a: 1 }, {} instanceof Error);", "true false true false true false false true true false"},
		{"print(!0, ~5, +'3', -'3', typeof 1, void 1, typeof print, typeof nowhere, typeof null);", "true -6 3 -3 number undefined function undefined object"},
		{"print(0 && 1, 1 && 2, 0 || 1, 1 || 2, 0 ? 1 : 2, 1 ? 1 : 2, (1, 2, 3));", "0 2 1 1 2 1 3"},
		{"0 && print('a'); 1 || print('b'); 1 && print('c'); 0 || print('d');", "c | d"},
		{"print(`a`, `${1}`, `a${1}b${2}c`, `${1}${2}`, ``, `${''}`, 'z');", "a 1 a1b2c 12   z"},
		{"let o = t => ({ toString() { print('s' + t); return t; }, valueOf() { print('v' + t); return 1; } }); print(`${o('a')}${print('x')}${o('b')}`);", "sa | x | sb | aundefinedb"},
		{"let o = t => ({ valueOf() { print(t); return 2; } }); print(o('a') - o('b'), o('c') < o('d'), -o('e'));", "a | b | c | d | e | 0 false -2"},
	})
}

// P13.1: objects, arrays, properties; the order in which their parts are done.
func TestProperties(t *testing.T) {
	const helper = "let s = (t, v) => { print(t); return v; }; let k = t => ({ toString() { print('key ' + t); return t; } }); "
	holdRuns(t, [][2]string{
		{"let a = [1, 'b', ...'cd', ...[2, 3], null]; print(a.length, a[1], a[3], a[5], a[6]);", "7 b d 3 null"},
		{"let o = { a: 1, 'b c': 2, 3: 4, [5 + 1]: 7, 0x10: 8, 1.50: 9, if: 10, a: 11 }; for (let k in o) print(k, o[k]);", "3 4 | 6 7 | 16 8 | a 11 | b c 2 | 1.5 9 | if 10"},
		{"let o = { get a() { print('get', this === o); return 1; }, set a(v) { print('set', v, this === o); } }; o.a = o.a + 1; o.a += 5; print(o.a++, --o.a);", "get true | set 2 true | get true | set 6 true | get true | set 2 true | get true | set 0 true | 1 0"},
		{helper + "({ [s('a', k('x'))]: s('b'), [s('c', k('y'))]: s('d') });", "a | key x | b | c | key y | d"},
		{helper + "let o = {}; s('o', o)[s('k', k('x'))] = s('v', 1); print(o.x);", "o | k | key x | v | 1"},
		{helper + "let o = { x: 1 }; s('o', o)[s('k', k('x'))] += s('v', 1); s('o', o)[k('x')]++; print(o.x);", "o | k | key x | v | o | key x | 3"},
		{helper + "let o = { x: 1 }; print(delete s('o', o)[s('k', k('x'))], o.x, delete o.y, delete s('z'), delete 1);", "o | k | key x | z | true undefined true true true"},
		{helper + "s('o', null)[s('k', k('x'))] = s('v', 1);", "o | k | key x | v throws TypeError"},
		{helper + "s('o', null)[s('k', k('x'))] += s('v', 1);", "o | k | key x throws TypeError"},
		{helper + "s('o', null).x = s('v', 1);", "o | v throws TypeError"},
		{helper + "s('o', null).x(s('v', 1));", "o throws TypeError"},
		{helper + "s('f', 1)(s('a'), s('b'));", "f | a | b throws TypeError"},
		{helper + "let o = { f(...a) { print(this === o, a.length); } }; s('o', o)[s('k', k('f'))](s('a'), ...s('b', [1, 2])); o.f(); (0, o.f)();", "o | k | key f | a | b | true 3 | true 0 | false 0"},
		{helper + "function F(a) { this.a = a; } let x = new (s('F', F))(s('a', 1)); print(x.a, x instanceof F); new (s('f', () => 1))(s('b'));", "F | a | 1 true | f | b throws TypeError"},
		{"let a = [[1, [2]], { b: { c: [3] } }]; print(a[0][1][0], a[1].b.c[0], a[1]['b']['c'].length, a[a.length - 1].b.c[0]);", "2 3 1 3"},
		{"print('abc'[1], 'abc'.length, [5][0], [5]['0'], { 1: 2 }[1], { '1.5': 3 }[1.50]);", "b 3 5 5 2 3"},
		{"function F() { return { a: 1 }; } print(new F().a, new F(1, ...[2]).a);", "1 1"},
		{"let f = (...a) => { for (const x of a) print(x); }; f(1, ...'ab', 2, ...[], ...[3]);", "1 | a | b | 2 | 3"},
	})
}

// P13.1: names: what is changed while it is wanted, what isn't there yet, what may not be set, what is global.
func TestNames(t *testing.T) {
	holdRuns(t, [][2]string{
		{"let a = 1; print(a + (a = 5), a); a = 1; print(a + a++ + a, a); a = 2; print(a * (a += 3), [a, a = 9, a][0], a);", "6 5 | 4 2 | 10 5 9"},
		{"let a = 1; a += (a = 5, 2); print(a); let f = () => a; print(a + (a = 7) + f());", "3 | 17"},
		{"let o = { a: 1 }, p = o; o.a += (o = { a: 10 }, 5); print(p.a, o.a); o[o.a] = (o = 3); print(o); let k = 'a'; p[k] = (k = 'b'); print(p.a, p.b);", "6 10 | 3 | b undefined"},
		{"let o = { a: 1 }; print(o[(o = { a: 2 }, 'a')], o.a); o = { f() { return this.a; }, a: 3 }; print(o[(o = 4, 'f')](), o);", "1 2 | 3 4"},
		{"let f = x => x; print(f(f = 3), f); let o = { m(x) { return this.n + x; }, n: 1 }; print(o.m(o = 5), o);", "3 3 | 6 5"},
		{"let a = 1, b = (a = 2, a) + a, c; print(a, b, c); const d = a && b || c; print(d);", "2 4 undefined | 4"},
		{"let x = 1; { print(x); { let x = 2; print(x); } print(x); }", "1 | 2 | 1"},
		{"try { a; } catch (e) { print(e.name); } let a; print(a);", "ReferenceError | undefined"},
		{"try { a = print('v'); } catch (e) { print(e.name); } let a = 1; print(a);", "v | ReferenceError | 1"},
		{"try { typeof a; } catch (e) { print(e.name); } const a = 1; try { a = print('v'); } catch (e) { print(e.name); } print(a);", "ReferenceError | v | TypeError | 1"},
		{"try { a = print('v'); } catch (e) { print(e.name); } const a = 1; try { a += print('w'); } catch (e) { print(e.name, a); } try { a++; } catch (e) { print(e.name, a); }", "v | ReferenceError | w | TypeError 1 | TypeError 1"},
		{"let f = () => a; try { f(); } catch (e) { print(e.name); } let a = 1; print(f()); a = 2; print(f());", "ReferenceError | 1 | 2"},
		{"let f = v => { a = v; }; try { f(1); } catch (e) { print(e.name); } let a; f(2); print(a);", "ReferenceError | 2"},
		{"let f = v => { a = v; }, g = () => a++; try { f(1); } catch (e) { print(e.name); } const a = 5; try { f(2); } catch (e) { print(e.name); } try { g(); } catch (e) { print(e.name, a); }", "ReferenceError | TypeError | TypeError 5"},
		{"let a = (() => a)();", "throws ReferenceError"},
		{"let a = a;", "throws ReferenceError"},
		{"let a = 1 && a;", "throws ReferenceError"},
		{"let a = [1, a];", "throws ReferenceError"},
		{"try { let a = { b: 1, c: a }; } catch (e) { print(e.name); }", "ReferenceError"},
		{"for (let i = 0; i < 2; i++) { try { x; } catch (e) { print(e.name); } let x = i; print(x); }", "ReferenceError | 0 | ReferenceError | 1"},
		{"for (let i = 0; i < 2; i++) { let f = () => x; try { f(); } catch (e) { print(e.name); } let x = i; print(f()); }", "ReferenceError | 0 | ReferenceError | 1"},
		{"for (let i = 0; i < 2; i++) { let x; print(x); x = i; }", "undefined | undefined"},
		{"nowhere;", "throws ReferenceError"},
		{"nowhere = print('v');", "v throws ReferenceError"},
		{"nowhere += print('v');", "throws ReferenceError"},
		{"undefined = print('v');", "v throws TypeError"},
		{"NaN++;", "throws TypeError"},
		{"print = 5; input = print + 1; input++; throw input;", "throws 7"},
		{"let f = function g() { try { g = print('v'); } catch (e) { print(e.name); } return typeof g; }; print(f());", "v | TypeError | function"},
		{"let f = function g() { return () => { try { g++; } catch (e) { print(e.name); } return g === f; }; }; print(f()());", "TypeError | true"},
		{"let f = function g(g) { g = 1; return g; }; print(f(5)); f = function g() { let g = 2; g++; return g; }; print(f());", "1 | 3"},
		{"print(f(), typeof g); function f() { return g(); } function g() { return 1; } f = 2; print(f);", "1 function | 2"},
		{"{ print(f()); function f() { return x; } let x; }", "throws ReferenceError"},
		{"{ let x = 3; print(f()); function f() { return x; } { function f() { return 4; } print(f()); } print(f()); }", "3 | 4 | 3"},
		{"switch (1) { case 0: let x = 1; case 1: try { x; } catch (e) { print(e.name); } print(f()); x = 2; function f() { return 5; } }", "ReferenceError | 5 throws ReferenceError"},
		{"let x = 0; switch (x) { case x: let x = 1; print(x); }", "throws ReferenceError"},
		{"let x = 0; switch (x) { case 0: let x = 1; print(x); }", "1"},
		{"let a = 1; function f(a, b, ...c) { a = a + 1; let d = () => a + b; b = 10; print(a, c.length); return d(); } print(f(1, 2, 3, 4), f(1), a);", "2 2 | 2 0 | 12 12 1"},
		{"function f(a, ...b) { return () => { b = b.length; return a + b; }; } print(f(1, 2, 3)(), f()());", "3 NaN"},
		{"try { throw 1; } catch (e) { let f = () => e++; f(); print(e, f(), e); } let e = 5; try { throw 2; } catch (e) { e = 3; } print(e);", "2 2 3 | 5"},
		{"let a = 1; let f = () => () => () => a++; print(f()()(), f()()(), a);", "1 2 3"},
		{"let f = a => b => c => d => a + b + c + d; print(f(1)(2)(3)(4));", "10"},
		{"function f() { return () => this; } print(f.call, typeof f()()); let o = { m() { return () => () => this === o; } }; print(o.m()()());", "undefined undefined | true"},
	})
}

// P13.1: loops, and the names that are new for each turn.
func TestLoops(t *testing.T) {
	holdRuns(t, [][2]string{
		{"let f = []; for (let i = 0; i < 3; i++) f[i] = () => i; print(f[0](), f[1](), f[2]());", "0 1 2"}, // the document's
		{"let f = [], g; for (let i = 0, h = () => i++; i < 3; i++) { f[i] = () => i; g = h; } print(f[0](), f[2](), g(), g());", "0 2 0 1"},
		{"let f = []; for (let i = 0; f[f.length] = () => i, i < 2; f[f.length] = () => i, i++) { i += 0; f[f.length] = () => i; } for (const g of f) print(g());", "0 | 0 | 1 | 1 | 1 | 2 | 2"},
		{"let f = []; for (let i = 0; i < 4; i++) { f[i] = () => i; if (i === 1) continue; i++; } print(f[0](), f[1], f[2](), f.length);", "1 undefined 3 3"},
		{"let f = []; for (const i = { n: 0 }; i.n < 2; i.n++) f[i.n] = () => i.n; print(f[0](), f[1]());", "2 2"},
		{"for (const i = 0; i < 1; i++) print('a');", "a throws TypeError"},
		{"for (let i = 0, h = () => i; i < 20; i++) { i += 10; print(i, h()); }", "10 0 | 21 0"},
		{"for (let i = 0, up = () => ++i; i < 2; i++) print(i, up());", "0 1 | 1 2"},
		{"let f; for (let i = (f = () => i, 5); i < 6; i++) { i = 9; } print(f());", "5"},
		{"let f = []; for (let i of 'ab') f[f.length] = () => i; for (const k in { x: 1, y: 2 }) f[f.length] = () => k; print(f[0](), f[1](), f[2](), f[3]());", "a b x y"},
		{"let f = []; for (let i of [1, 2]) { f[f.length] = () => i; i += 10; } print(f[0](), f[1]());", "11 12"},
		{"for (let x of [x]) print(x);", "throws ReferenceError"},
		{"for (let x in { a: () => x }) print(x);", "a"},
		{"let f; for (let x of [1, (f = () => x, 2)]) print(x); f();", "1 | 2 throws ReferenceError"},
		{"for (const x of [1]) x = 2;", "throws TypeError"},
		{"let x; for (x of [1, 2]) print(x); for (x in 'ab') print(x); print(x); let f = () => x; for (x of [7]) print(f());", "1 | 2 | 0 | 1 | 1 | 7"},
		{"for (x of [1]) print(x);", "throws ReferenceError"},
		{"for (y of [1]) ; let y;", "throws ReferenceError"},
		{"for (let k in null) print(k); for (let k in undefined) print(k); for (let k in 5) print(k); for (let k in 'xy') print(k); for (let k in [8, 9]) print(k);", "0 | 1 | 0 | 1"},
		{"let i = 0; while (i < 5) { i++; if (i === 2) continue; if (i === 4) break; print(i); } do print(i--); while (i > 2); do { continue; } while (print('c'));", "1 | 3 | 4 | 3 | c"},
		{"let i = 0; for (;;) { if (i++ > 2) break; } print(i); for (i = 5; ; ) { break; } print(i); for (; i < 7; ) i++; print(i); for (; i < 9; i++) ; print(i);", "4 | 5 | 7 | 9"},
		{"a: for (let i = 0; i < 3; i++) { for (let j = 0; j < 3; j++) { if (j === 1) continue a; if (i === 2) break a; print(i, j); } }", "0 0 | 1 0"},
		{"a: b: c: for (let i = 0; i < 2; i++) { print(i); continue b; } a: { b: { print(1); break a; } print(2); } a: if (1) { break a; print(3); } a: break a;", "0 | 1 | 1"},
		{"a: while (1) { b: do { switch (1) { case 1: break; } switch (1) { default: continue b; } } while (print('x')); switch (1) { case 1: break a; } } print('y');", "x | y"},
		{"a: switch (1) { case 1: for (;;) break a; default: print('no'); } a: try { break a; } finally { print('f'); } a: { break a; }", "f"},
		{"switch (3) { case print('a'): case 1: print('b'); default: print('d'); case 3: print('c'); break; case 4: print('e'); }", "a | c"},
		{"switch (9) { case 1: print('b'); default: print('d'); case 3: print('c'); break; case print('x'): print('e'); }", "x | d | c"},
		{"switch ('1') { case 1: print('b'); } switch (1) { } switch (NaN) { case NaN: print('n'); } switch (2) { case 1: case 2: case 3: print('m'); }", "m"},
	})
}

// P13.1: ways out of try, catch and finally.
func TestTries(t *testing.T) {
	holdRuns(t, [][2]string{
		{"try { print('a'); throw 1; } catch (e) { print(e); } finally { print('f'); } print('z');", "a | 1 | f | z"},
		{"try { throw 1; } finally { print('f'); }", "f throws 1"},
		{"try { throw 1; } catch (e) { throw e + 1; } finally { print('f'); }", "f throws 2"},
		{"try { throw 1; } finally { throw 2; }", "throws 2"},
		{"try { try { throw 1; } finally { print('a'); } } catch (e) { print(e); }", "a | 1"},
		{"try { try { throw 1; } catch (e) { throw 2; } } catch (e) { print(e); }", "2"},
		{"try { } catch (e) { } try { } finally { } try { } catch (e) { } finally { print('f'); }", "f"},
		{"let f = () => { try { return print('r'); } finally { print('f'); } }; print(f());", "r | f | undefined"},
		{"let f = () => { try { return 1; } finally { return 2; } }; print(f());", "2"},
		{"let f = () => { try { throw 1; } finally { return 2; } }; print(f());", "2"},
		{"let f = () => { try { throw 1; } catch (e) { return e; } finally { print('f'); } }; print(f());", "f | 1"},
		{"let f = () => { let x = 1; try { return x; } finally { x = 2; } }; print(f());", "1"},
		{"let f = () => { try { return 1; } finally { try { throw 2; } catch (e) { } } }; print(f());", "1"},
		{"let f = () => { try { return 1; } finally { try { return 2; } finally { print('g'); } } }; print(f());", "g | 2"},
		{"let f = () => { try { return 1; } finally { a: try { return 2; } finally { break a; } } }; print(f());", "1"},
		{"let f = g => { try { return 1; } finally { try { return g && g(); } catch (e) { print(e.name); } } }; print(f(1), f(0));", "TypeError | 1 0"},
		{"let f = g => { for (const x of [1]) { try { return 1; } finally { try { return x && g(); } catch (e) { print(e.name); } } } }; print(f(1), f(() => 3));", "TypeError | 1 3"},
		{"let f = () => { while (1) { try { return 1; } finally { break; } } return 2; }; print(f());", "2"},
		{"let f = () => { for (let i = 0; i < 3; i++) { try { if (i === 1) continue; if (i === 2) return i; } finally { print('f', i); } print('b', i); } }; print(f());", "f 0 | b 0 | f 1 | f 2 | 2"},
		{"a: for (let i = 0; i < 2; i++) { try { for (;;) { try { continue a; } finally { print('in', i); } } } finally { print('out', i); } }", "in 0 | out 0 | in 1 | out 1"},
		{"a: { try { try { break a; } finally { print(1); } } finally { print(2); } print('no'); } print(3);", "1 | 2 | 3"},
		{"let f = () => { try { try { try { return 1; } finally { print('a'); } } finally { print('b'); } } finally { print('c'); } }; print(f());", "a | b | c | 1"},
		{"let f = () => { try { try { throw 1; } finally { print('a'); } } catch (e) { return e; } finally { print('c'); } }; print(f());", "a | c | 1"},
		{"let f = n => { a: for (;;) { b: for (;;) { try { if (n === 0) break a; if (n === 1) break b; if (n === 2) return 'r'; if (n === 3) throw 't'; if (n === 4) { n = 1; continue a; } if (n === 5) { n = 0; continue b; } } catch (e) { n = 2; print(e); continue; } finally { print('f', n); } print('n'); return n; } print('b'); return 'b'; } return 'a'; }; for (let i = 0; i < 7; i++) print(f(i));", "f 0 | a | f 1 | b | b | f 2 | r | t | f 2 | f 2 | r | f 1 | f 1 | b | b | f 0 | f 0 | a | f 6 | n | 6"},
		{"let f = () => { try { return 1; } finally { for (const x of [1, 2]) { if (x === 2) break; } for (const x of [3]) { try { continue; } finally { print('g'); } } } }; print(f());", "g | 1"},
		{"let f = () => { a: for (const x of [1, 2]) { try { return x; } finally { for (const y of [5, 6]) { if (x === 1) continue a; if (y === 6) break; } print('z'); } } }; print(f());", "z | 2"},
		{"for (let i = 0; i < 2; i++) { try { let x = i; told(() => x); } catch (e) { print(e.name); } finally { let x = 5; print(x); } } function told(f) { print(f()); }", "0 | 5 | 1 | 5"},
		{"try { null.x; } catch (e) { print(e.name); } finally { print('f'); } throw new RangeError('r');", "TypeError | f throws RangeError: r"}, // the document's
	})
}

// P13.1: iterators are closed, or not.
func TestIterators(t *testing.T) {
	const helper = "let at = 0, it = { [iterator]() { at = 0; return this; }, next() { return { value: ++at, done: at > 3 }; }, return() { print('closed', this === it); return {}; } }; " +
		"let by = r => ({ [iterator]() { return this; }, next() { return { value: 0, done: false }; }, return: r }); "
	holdRuns(t, [][2]string{
		{helper + "for (let x of it) print(x);", "1 | 2 | 3"},
		{helper + "for (let x of it) { if (x === 2) break; print(x); } print('z');", "1 | closed true | z"},
		{helper + "for (let x of it) { if (x === 2) continue; print(x); } print('z');", "1 | 3 | z"},
		{helper + "let f = () => { for (let x of it) return x; }; print(f());", "closed true | 1"},
		{helper + "for (let x of it) throw x;", "closed true throws 1"},
		{helper + "try { for (let x of it) throw x; } catch (e) { print(e); } finally { print('f'); }", "closed true | 1 | f"},
		{helper + "for (let x of it) try { throw x; } catch (e) { print(e); }", "1 | 2 | 3"},
		{helper + "a: for (let i of [7, 8]) { for (let x of it) { print(i, x); continue a; } }", "7 1 | closed true | 8 1 | closed true"},
		{helper + "a: for (let i of it) { for (let x of [1]) { break a; } }", "closed true"},
		{helper + "a: for (let i of [7, 8]) { for (let x of it) { for (let y of by(() => { print('y'); return {}; })) continue a; } }", "y | closed true | y | closed true"},
		{helper + "let f = () => { for (let x of it) { for (let y of by(() => { print('y'); return {}; })) { try { return 5; } finally { print('f'); } } } }; print(f());", "f | y | closed true | 5"},
		{helper + "for (let x of by(() => { throw 'r'; })) break;", `throws "r"`},
		{helper + "for (let x of by(() => { throw 'r'; })) throw 't';", `throws "t"`},
		{helper + "for (let x of by(() => 1)) break;", "throws TypeError"},
		{helper + "for (let x of by(() => 1)) throw 't';", `throws "t"`},
		{helper + "for (let x of by(1)) break;", "throws TypeError"},
		{helper + "for (let x of by(1)) throw 't';", `throws "t"`},
		{helper + "for (let x of by(null)) break; for (let x of by()) break; print('z');", "z"},
		{helper + "let f = () => { for (let x of by(() => { throw 'r'; })) return 1; }; try { f(); } catch (e) { print(e); }", "r"},
		{helper + "for (let x of it) { for (let y of by(() => { throw 'r'; })) break; }", `closed true throws "r"`},
		{helper + "const c = 1; for (c of it) ;", "closed true throws TypeError"},
		{helper + "for (nowhere of it) ;", "closed true throws ReferenceError"},
		{helper + "for (let x of { [iterator]() { return { next() { throw 'n'; }, return() { print('no'); } }; } }) ;", `throws "n"`},
		{helper + "for (let x of { [iterator]() { return { next() { return 1; }, return() { print('no'); } }; } }) ;", "throws TypeError"},
		{helper + "for (let x of { [iterator]() { return { next() { return { get value() { throw 'v'; } }; }, return() { print('no'); } }; } }) ;", `throws "v"`},
		{helper + "for (let x of 5) ;", "throws TypeError"},
		{helper + "for (let x of { [iterator]() { return 1; } }) ;", "throws TypeError"},
		{helper + "print([...it].length); (() => { for (let x of it) { [...it]; return; } })();", "3 | closed true"},
		{helper + "print(...it); [...{ [iterator]() { return { next() { throw 'n'; }, return() { print('no'); } }; } }];", `1 2 3 throws "n"`},
		{helper + "let f = () => { try { for (let x of it) { try { return x; } finally { throw 'f'; } } } catch (e) { return e; } }; print(f());", "closed true | f"},
		{helper + "let f = () => { try { return 1; } finally { for (let x of it) { return 2; } } }; print(f());", "closed true | 2"},
		{helper + "a: for (;;) { try { throw 1; } finally { for (let x of it) { break a; } } } print('z');", "closed true | z"},
		{helper + "for (let x of it) { let f = () => x; if (x === 2) { print(f()); break; } }", "2 | closed true"},
		{helper + "for (let x of it) switch (x) { case 1: break; case 2: print('two'); continue; default: print('d'); }", "two | d"},
	})
}

// P13.1: the script's value is that of the last expression statement that was done outside of functions.
func TestScriptValue(t *testing.T) {
	for _, x := range [][2]string{
		{"", "undefined"}, {"1;", "1"}, {"1; 'x'", `"x"`}, {"1; let a = 2;", "1"}, {"1; if (0) 2;", "1"}, {"1; if (1) 2; else 3;", "2"},
		{"let f = () => { 5; }; f();", "undefined"}, {"1; let f = () => { 5; }, a = f();", "1"}, {"7; (function () { 5; })", "[function ]"}, {"for (let i = 0; i < 3; i++) i;", "2"},
		{"1; for (let i = 0; i < 3; i++) ;", "1"}, {"try { 1; throw 2; } catch (e) { } finally { }", "1"}, {"try { 1; } finally { 2; }", "2"},
		{"a: { 3; break a; }", "3"}, {"switch (1) { case 1: 8; }", "8"}, {"1; function f() { 2; }", "1"}, {"let a = 4; a;", "4"},
		{"let a = 4; () => a; a;", "4"}, {"1; try { 2 + null.x; } catch (e) { }", "1"}, {"let a; a = 5; { a++; }", "5"}, {"1; void 0;", "undefined"},
	} {
		l := parsed(t, x[0])
		o, want := runModule(made(t, x[0], l), newWorld(10000)), runTree(l, newWorld(10000))
		if o.End != api.EndNormal || o.Value != x[1] || want.Value != x[1] {
			t.Errorf("%s: end %d, %s, of the tree %s, not %s", x[0], o.End, o.Value, want.Value, x[1])
		}
	}
}

// P13.1: whole scripts that need no library.
func TestScripts(t *testing.T) {
	holdRuns(t, [][2]string{
		{"for (let x = input(); x !== undefined; x = input()) print(x.length);", "3 | 3"},
		{"let f = n => n < 2 ? n : f(n - 1) + f(n - 2); print(f(12));", "144"},
		{"let even = n => n === 0 || odd(n - 1), odd = n => n !== 0 && even(n - 1); print(even(20), odd(20));", "true false"},
		{"function List() { this.head = null; } let l = new List; for (const x of [1, 2, 3]) l.head = { x, next: l.head }; for (let at = l.head; at !== null; at = at.next) print(at.x);", "3 | 2 | 1"},
		{"let make = () => { let n = 0; return { up() { return ++n; }, get n() { return n; }, set n(v) { n = v * 2; } }; }; let a = make(), b = make(); a.up(); a.up(); b.n = 5; print(a.n, b.n, b.up());", "2 10 11"},
		{"let primes = []; a: for (let n = 2; primes.length < 8; n++) { for (const p of primes) if (n % p === 0) continue a; primes[primes.length] = n; } let s = ''; for (const p of primes) s += `${p} `; print(s + '.');", "2 3 5 7 11 13 17 19 ."},
	})
}
