package vm_test

import (
	"strings"
	"testing"

	"lintel/api"
)

// roomy are limits that small scripts do not meet.
var roomy = api.Limits{Fuel: 200000, Frames: 500, Cells: 20000}

// told is an outcome's lines, and behind them how it ended, unless that is as usual.
func told(o api.Outcome) string {
	out := strings.Join(o.Trace, " | ")
	switch o.End {
	case api.EndNormal:
		return out
	case api.EndThrow:
		return strings.TrimSpace(out + " throws " + o.Value)
	}
	return strings.TrimSpace(out + " " + []string{"", "", "syntax", "deep", "limit", "fuel", "stuck"}[o.End] + " " + o.Value)
}

// holdTraces asks what scripts print, of the machine and, so that the tests' own walk is held to the same, of the walk over their trees.
func holdTraces(t *testing.T, l [][2]string) {
	t.Helper()
	for _, x := range l {
		if got := told(machine(t, roomy).Source(x[0])); got != x[1] {
			t.Errorf("%s\n%s, not\n%s", x[0], got, x[1])
		}
		if want, _ := wanted(t, x[0], 20000); told(want) != x[1] {
			t.Errorf("%s\nof the walk: %s, not\n%s", x[0], told(want), x[1])
		}
	}
}

const things = `const thing = (t, v, s) => ({ valueOf() { print('v' + t); return v; }, toString() { print('s' + t); return s; } });
const say = (t, v) => { print(t); return v; };
`

// P21.6: objects as primitives, for operators, texts, numbers, keys.
func TestPrimitives(t *testing.T) {
	holdTraces(t, [][2]string{
		{things + "print(thing('a', 1, 'x') + thing('b', 2, 'y'), thing('c', 1, 'x') - 1);", "va | vb | vc | 3 0"},
		{things + "print(`${thing('a', 1, 'x')}`, thing('b', 2, 'y'));", "sa | sb | x y"},
		{things + "let o = { x: 5 }; print(o[thing('a', 1, 'x')], thing('b', 1, 'x') in o, { [thing('c', 1, 'z')]: 7 }.z);", "sa | sb | sc | 5 true 7"},
		{things + "print(thing('a', {}, 'x') + 1, `${thing('b', 1, {})}`, +thing('c', {}, '4'));", "va | sa | sb | vb | vc | sc | x1 1 4"},
		{things + "try { thing('a', {}, {}) + 1; } catch (e) { print(e.name); } try { `${thing('b', [], [])}`; } catch (e) { print(e.name); }", "va | sa | TypeError | sb | vb | TypeError"},
		{things + "print(thing('a', 2, 'x') > thing('b', 1, 'y'), thing('c', 2, 'x') <= thing('d', 1, 'y'));", "va | vb | vc | vd | true false"},
		{things + "let o = thing('a', 1, 'x'); print(o == 1, o == '1', 1 == o, o == o, o != null, undefined == o, o == thing('b', 1, 'x'), o === 1);", "va | va | va | true true true true true false false false"},
		{things + "print(thing('a', 1, 'x') == true, false == thing('b', 0, 'x'), thing('c', 1, 'x') != 'y', thing('d', iterator, 'x') == iterator);", "va | vb | vc | vd | true true true true"},
		{things + "print(-thing('a', 1, 'x'), ~thing('b', 1, 'x'), +thing('c', '7', 'x'), !thing('d', 0, ''));", "va | vb | vc | -1 -2 7 false"},
		{things + "let o = { valueOf: 1, toString: () => 'k' }; print(o + 1, `${o}`); let p = { valueOf: () => 6, toString: undefined }; print(`${p}`, p * 2);", "k1 k | 6 12"},
		{"let o = { get valueOf() { print('get v'); return undefined; }, get toString() { print('get s'); return () => 1; } }; print(o + 1);", "get v | get s | 2"},
		{"let o = { get toString() { throw 'no'; } }; try { `${o}`; } catch (e) { print(e); } let p = { valueOf() { throw 'nv'; } }; p * 1;", `no throws "nv"`},
		{"let o = { valueOf() { print(this === o, arguments1.length); return 1; } }; const arguments1 = []; o + 1;", "true 0"},
		{"for (const f of [() => iterator + '', () => +iterator, () => `${iterator}`, () => iterator * 1, () => iterator < 1, () => -iterator, () => print(iterator), () => iterator++]) try { f(); } catch (e) { print(e.name); }", "TypeError | TypeError | TypeError | TypeError | TypeError | TypeError | TypeError | TypeError"},
		{things + "try { iterator - thing('a', 1, 'x'); } catch (e) { print(e.name); } try { thing('b', iterator, 'x') + thing('c', 1, 'y'); } catch (e) { print(e.name); }", "va | TypeError | vb | vc | TypeError"},
		{"print(typeof undefined, typeof null, typeof true, typeof 1, typeof 'a', typeof iterator, typeof {}, typeof [], typeof print, typeof (() => 1), typeof Error, typeof nowhere);", "undefined object boolean number string symbol object object function function function undefined"},
	})
}

// P21.6: the order in which things are done.
func TestOrder(t *testing.T) {
	holdTraces(t, [][2]string{
		{things + "say('o', { x: 1 })[say('k', thing('a', 1, 'x'))] = say('v', 2);", "o | k | sa | v"},
		{things + "let o = { x: 1 }; say('o', o)[say('k', thing('a', 1, 'x'))] += say('v', 2); print(o.x); say('o', o)[thing('b', 1, 'x')]++; print(o.x);", "o | k | sa | v | 3 | o | sb | 4"},
		{things + "say('n', null)[say('k', thing('a', 1, 'x'))] = say('v', 2);", "n | k | sa | v throws TypeError"},
		{things + "say('n', undefined)[say('k', thing('a', 1, 'x'))] += say('v', 2);", "n | k | sa throws TypeError"},
		{things + "say('n', null)[say('k', thing('a', 1, 'x'))];", "n | k | sa throws TypeError"},
		{things + "say('n', null)[thing('a', 1, 'x')](say('b'));", "n | sa throws TypeError"},
		{things + "say('f', 1)(say('a'), say('b'));", "f | a | b throws TypeError"},
		{things + "say('o', {}).f(say('a'), ...say('b', [1]), say('c'));", "o | a | b | c throws TypeError"},
		{things + "new (say('f', () => 1))(say('a'));", "f | a throws TypeError"},
		{things + "let o = { f(...a) { print(this === o, a.length, a[2]); } }; say('o', o)[say('k', 'f')](say('a'), ...say('b', 'xy')); let g = o.f; (0, o.f)(1); g(1);", "o | k | a | b | true 3 y | false 1 undefined | false 1 undefined"},
		{things + "let o = { get a() { print('get'); return 1; }, set a(v) { print('set', v); } }; o.a = say('v', 5); o.a += say('w', 6); print(o.a++, ++o.a, o.a--);", "v | set 5 | get | w | set 7 | get | set 2 | get | set 2 | get | set 0 | 1 2 1"},
		{things + "let a = thing('a', '5', 'x'); print(a++, a); let b = 'x'; print(b++, b); let c = true; print(++c, c--, c);", "va | 5 6 | NaN NaN | 2 2 1"},
		{things + "print({ [say('a', 'x')]: say('b', 1), [say('c', 'y')]: say('d', 2) }.y); print([say('e', 1), ...say('f', 'gh'), say('i', 2)].length);", "a | b | c | d | 2 | e | f | i | 4"},
		{things + "print(say('a', 0) && say('b'), say('c', 1) || say('d'), say('e', 0) ? say('f') : say('g', 2), (say('h'), say('i', 3)));", "a | c | e | g | h | i | 0 1 2 3"},
		{"let a = 1; print(a + (a = 5) + a, [a, a = 7, a][0], a); let o = { a }; o.a += (o = { a: 10 }, 5); print(o.a);", "11 5 7 | 10"},
	})
}

// P21.6: names, and scopes.
func TestNames(t *testing.T) {
	holdTraces(t, [][2]string{
		{"for (const f of [() => a, () => a = 1, () => a++, () => typeof a, () => b, () => { b = print('right'); }]) try { f(); } catch (e) { print(e.name); } let a; const b = 1;", "ReferenceError | ReferenceError | ReferenceError | ReferenceError | ReferenceError | right | ReferenceError"},
		{"const a = 1; try { a = print('right'); } catch (e) { print(e.name, a); } try { a += 1; } catch (e) { print(e.name, a); } let f = function g() { g = print('self'); }; f();", "right | TypeError 1 | TypeError 1 | self throws TypeError"},
		{"nowhere;", "throws ReferenceError"},
		{"nowhere = print('right');", "right throws ReferenceError"},
		{"print(typeof nowhere); nowhere++;", "undefined throws ReferenceError"},
		{"for (const f of [() => { undefined = print('right'); }, () => { NaN = 1; }, () => { Infinity++; }]) try { f(); } catch (e) { print(e.name); } print(undefined, NaN, Infinity);", "right | TypeError | TypeError | TypeError | undefined NaN Infinity"},
		{"Error = 1; print(Error); let p = print; print = x => p('mine', x); print(2); TypeError = null; try { null.x; } catch (e) { p(e.name); }", "1 | mine 2 | TypeError"},
		{"print(f(), typeof g); { print(g()); function g() { return 'g'; } } function f() { return 'f'; }", "f undefined | g"},
		{"let f = []; for (let i = 0; i < 3; i++) f[i] = () => i; print(f[0](), f[2]());", "0 2"}, // the document's
		{"let f = [], g; for (let i = 0, h = () => i; i < 3; f[f.length] = () => i, i++) { g = h; } print(f[0](), f[1](), f[2](), g());", "1 2 3 0"},
		{"let f = []; for (let i of [1, 2]) { f[f.length] = () => i++; } print(f[0](), f[0](), f[1]()); for (const k in { a: 1, b: 2 }) f[k] = () => k; print(f.a(), f.b());", "1 2 2 | a b"},
		{"let x = 1; switch (x) { case 1: let x = 2; print(x); } try { throw 3; } catch (x) { print(x); } { let x = 4; print(x); } print(x); for (let x = 5; x < 6; x++) print(x);", "2 | 3 | 4 | 1 | 5"},
		{"let n = 0; let f = () => { let x = n++; return () => x++; }; let a = f(), b = f(); print(a(), a(), b(), a());", "0 1 1 2"},
	})
}

// P21.6: functions, this, new.
func TestFunctions(t *testing.T) {
	holdTraces(t, [][2]string{
		{"function f(a, b, ...c) { print(a, b, c.length, c[0], this); } f(); f(1); f(1, 2, 3, 4);", "undefined undefined 0 undefined undefined | 1 undefined 0 undefined undefined | 1 2 2 3 undefined"},
		{"function f(a, b, ...c) {} let g = (x) => x, h = function () {}; print(f.length, f.name, g.length, g.name === '', h.length, h.name === '', print.length, print.name);", "2 f 1 true 0 true 0 print"},
		{"function f() {} let g = () => 1; print(f.prototype.constructor === f, typeof f.prototype, 'prototype' in g, { m() {} }.m.prototype === undefined, 'constructor' in g);", "true object false false false"},
		{"function F(a) { this.a = a; } F.prototype.b = 2; let x = new F(1), y = new F; print(x.a, x.b, y.a, y.b, x.constructor === F, x instanceof F, y instanceof F);", "1 2 undefined 2 true true true"},
		{"function F() { return { a: 1 }; } function G() { return 5; } function H() { return print; } print(new F().a, typeof new G(), new G() instanceof G, new H() === print);", "1 object true true"},
		{"function F() { print(typeof this, 'a' in this); } F.prototype.a = 1; new F(); F.prototype = 1; let o = new F(); F.prototype = { z: 9 }; print(new F().z, o.z, o instanceof F);", "object true | object false | object false | 9 undefined false"},
		{"for (const f of [1, {}, () => 1, print, 'a', null, iterator]) try { new f(); } catch (e) { print(e.name); }", "TypeError | TypeError | TypeError | TypeError | TypeError | TypeError | TypeError"},
		{"let o = { m() { return () => () => this === o; }, n: () => this }; print(o.m()()(), o.n(), (function () { return this; })(), this);", "true undefined undefined undefined"},
		{"function F() { this.g = () => this; } let f = new F(); print(f.g() === f, f.g.length); let h = function g(n) { return n ? g(n - 1) + 1 : 0; }; print(h(5));", "true 0 | 5"},
		{"let f = n => n < 2 ? n : f(n - 1) + f(n - 2); print(f(12)); let even = n => n === 0 || odd(n - 1), odd = n => n !== 0 && even(n - 1); print(even(20), odd(20));", "144 | true false"},
		{"try { print.name = 'x'; } catch (e) { print(e.name); } delete print.name; print(print.name, delete print.length, print.length);", "TypeError | undefined true undefined"},
		{"let s = { m() { return typeof this; } }; let t = {}; t.m = s.m; print(t.m(), (t.m)(), (0, t.m)());", "object object undefined"},
	})
}

// P21.6: literals of objects and arrays, templates.
func TestLiterals(t *testing.T) {
	holdTraces(t, [][2]string{
		{"let o = { b: 1, 2: 2, a: 3, 1: 4, b: 5, ['a']: 6 }; for (const k in o) print(k, o[k]);", "1 4 | 2 2 | b 5 | a 6"},
		{"let o = { get a() { return 1; }, a: 2 }; print(o.a); o.a = 3; print(o.a); let p = { a: 2, get a() { return 5; } }; try { p.a = 1; } catch (e) { print(e.name, p.a); } let q = { get a() { return this.v; }, set a(v) { this.v = v * 2; } }; q.a = 4; print(q.a); for (const k in q) print(k);", "2 | 3 | TypeError 5 | 8 | a | v"},
		{"let o = { set a(v) { } }; print(o.a, 'a' in o); let p = { get [iterator]() { return 7; }, [iterator + 1 === 0 ? 1 : 'x']: 1 };", "undefined true throws TypeError"},
		{"let a = [1, 'b', ...'c\\u{1F600}', ...[2, 3], null]; print(a.length, a[2], a[3], a[5], a[6]); a.x = 1; for (const k in a) print(k);", "7 c 😀 3 null | 0 | 1 | 2 | 3 | 4 | 5 | 6 | x"},
		{"print(`a${1}b${'c'}${[].length}d`, ``, `${undefined} ${null} ${true}`, '.');", "a1bc0d  undefined null true ."},
		{things + "print(`${thing('a', 1, 'x')}-${say('y', thing('b', 1, 'z'))}`);", "sa | y | sb | x-z"},
		{"let o = { if: 1, get: 2, set: 3, 'a b': 4, 1.5: 5, 1e21: 6, get get() { return 7; } }; print(o.if, o.get, o.set, o['a b'], o['1.5'], o['1e+21']);", "1 7 3 4 5 6"},
		{"let o = { __proto__: { a: 1 } }; print(o.a, typeof o.__proto__); for (const k in o) print(k);", "undefined object | __proto__"},
	})
}

// P21.6: properties of objects, texts and other values.
func TestProperties(t *testing.T) {
	holdTraces(t, [][2]string{
		{"let s = 'a\\u{1F600}'; print(s.length, s[0], s[1] === '\\ud83d', s[3], s['length'], s['0'], s['00'], s.nothing, s[-1], (5).x, true.x, iterator.x);", "3 a true undefined 3 a undefined undefined undefined undefined undefined undefined"},
		{"for (const f of [() => null.x, () => undefined.x, () => null[iterator], () => { null.x = 1; }, () => { (5).x = 1; }, () => { 'abc'.x = 1; }, () => { 'abc'[0] = 1; }, () => { 'abc'.length = 1; }, () => { true.x = 1; }, () => { iterator.x = 1; }, () => { print.length = 2; }]) try { f(); } catch (e) { print(e.name); }", strings.TrimSuffix(strings.Repeat("TypeError | ", 11), " | ")},
		{"for (const f of [() => delete null.x, () => delete undefined.x, () => delete 'a'[0], () => delete 'a'.length, () => delete [].length, () => delete Error.prototype, () => delete (() => 1)().x]) try { print(f()); } catch (e) { print(e.name); }", "TypeError | TypeError | TypeError | TypeError | TypeError | TypeError | true"},
		{"let o = { a: 1 }; print(delete o.a, o.a, delete o.b, delete 'a'[1], delete 'a'.x, delete (5).x, delete iterator.x, delete print('done'), delete 1);", "done | true undefined true true true true true true true"},
		{"let a = [1, 2, 3]; a[5] = 6; print(a.length, a[4], 4 in a, 5 in a, 'length' in a); a.length = 2; print(a.length, a[2]); a['1'] += 5; print(a[1], a['01']); delete a[0]; print(a[0], a.length);", "6 undefined false true true | 2 undefined | 7 undefined | undefined 2"},
		{"let a = []; for (const n of [-1, 1.5, 4294967296, '1', null, {}]) try { a.length = n; print('set'); } catch (e) { print(e.name); } a.length = 4294967295; print(a.length); a[4294967295] = 1; print(a.length); a[4294967294] = 1;", "RangeError | RangeError | RangeError | RangeError | RangeError | RangeError | 4294967295 | 4294967295"},
		{"for (const f of [() => 'a' in 'abc', () => 1 in null, () => ({}) in {}, () => ({} instanceof {}), () => ({} instanceof (() => 1)), () => (1 instanceof (() => 1)), () => ({} instanceof null)]) try { print(f()); } catch (e) { print(e.name); }", "TypeError | TypeError | TypeError | TypeError | TypeError | false | TypeError"},
		{things + "try { say('k', thing('a', 1, 'x')) in say('o', 1); } catch (e) { print(e.name); } print(say('k', thing('b', 1, 'x')) in say('o', { x: 1 }), 'next' in [].values(), iterator in [], 'toString' in {});", "k | o | TypeError | k | o | sb | true true true false"},
		{"function A() {} function B() {} B.prototype = new A(); let b = new B(); print(b instanceof B, b instanceof A, b instanceof Error, A.prototype instanceof A, b.constructor === A); B.prototype = 1; try { b instanceof B; } catch (e) { print(e.name); }", "true true false false true | TypeError"},
		{"function A() {} A.prototype = { get x() { return this.y; }, set x(v) { this.y = v + 1; }, z: 1, get r() { return 5; } }; let a = new A(); a.x = 1; print(a.x, a.y); a.z = 2; print(a.z, A.prototype.z); try { a.r = 1; } catch (e) { print(e.name); } for (const k in a) print(k);", "2 2 | 2 1 | TypeError | y | z | x | r"},
		{"let o = { [iterator]: 1, 1: 2, '1': 3 }; print(o[iterator], o[1], o['1'], o[1.0]); o[-0] = 'z'; print(o[0], o['-0']); o[undefined] = 1; o[null] = 2; o[true] = 3; print(o.undefined, o.null, o.true, o[[]]); o[[1, 2].length] = 8; print(o[2]);", "1 3 3 3 | z undefined throws TypeError"},
		{"print(typeof [].values, [].values === [][iterator], [].values().next().value, [7].values().next().value, [].map, ''.slice, (1).toFixed, {}.toString, print.call);", "function true undefined 7 undefined undefined undefined undefined undefined"},
	})
}

// P21.6: iterators: what goes over them, and what closes them.
func TestIterators(t *testing.T) {
	const helper = "let at = 0, it = { [iterator]() { at = 0; return this; }, next() { return { value: ++at, done: at > 3 }; }, return(...a) { print('closed', this === it, a.length); return {}; } }; " +
		"let by = (r, n) => ({ [iterator]() { return this; }, next: n || (() => ({ value: 0, done: false })), return: r }); "
	holdTraces(t, [][2]string{
		{helper + "for (const x of it) print(x); print([...it].length, ...it);", "1 | 2 | 3 | 3 1 2 3"},
		{helper + "for (const x of it) { if (x === 2) break; print(x); } for (const x of it) { if (x < 3) continue; print(x); }", "1 | closed true 0 | 3"},
		{helper + "let f = () => { for (const x of it) return x; }; print(f()); a: for (const y of [7, 8]) for (const x of it) { print(y, x); continue a; }", "closed true 0 | 1 | 7 1 | closed true 0 | 8 1 | closed true 0"},
		{helper + "try { for (const x of it) throw x; } catch (e) { print('caught', e); } for (const x of it) null.x;", "closed true 0 | caught 1 | closed true 0 throws TypeError"},
		{helper + "try { for (const x of by(() => { throw 'r'; })) break; } catch (e) { print(e); } try { for (const x of by(() => { throw 'r'; })) throw 't'; } catch (e) { print(e); }", "r | t"},
		{helper + "for (const r of [() => 1, 1, null, undefined, () => ({})]) { try { for (const x of by(r)) break; print('fine'); } catch (e) { print(e.name); } try { for (const x of by(r)) throw 't'; } catch (e) { print(e); } }", "TypeError | t | TypeError | t | fine | t | fine | t | fine | t"},
		{helper + "let o = { [iterator]() { return this; }, next() { return { done: false }; }, get return() { print('got'); throw 'g'; } }; try { for (const x of o) break; } catch (e) { print(e); } try { for (const x of o) throw 't'; } catch (e) { print(e); }", "got | g | got | t"},
		{helper + "for (const n of [() => { throw 'n'; }, () => 1, () => ({ get done() { throw 'd'; } }), () => ({ get value() { throw 'v'; } })]) try { for (const x of by(() => print('no'), n)) ; } catch (e) { print(e.name || e); }", "n | TypeError | d | v"},
		{"let o = { get [iterator]() { print('get'); return function () { print('call', this === o); return { get next() { print('next'); let n = 2; return function () { print('step'); return { get done() { print('done'); return n-- === 0; }, get value() { print('value'); return n; } }; }; } }; }; } }; for (const x of o) print(x);", "get | call true | next | step | done | value | 1 | step | done | value | 0 | step | done"},
		{"for (const f of [() => [...5], () => [...null], () => [...{}], () => [...{ [iterator]: 1 }], () => [...{ [iterator]: () => 1 }], () => [...{ [iterator]: () => ({}) }], () => [...{ [iterator]: () => ({ next: 1 }) }]]) try { f(); } catch (e) { print(e.name); }", strings.TrimSuffix(strings.Repeat("TypeError | ", 7), " | ")},
		{helper + "[...by(() => print('no'), () => { throw 'n'; })];", `throws "n"`},
		{helper + "try { print(...by(() => print('no'), () => ({ value: iterator, done: at++ > 0 }))); } catch (e) { print(e.name); }", "TypeError"},
		{"for (const c of 'a\\u{1F600}\\ud800b\\udc00') print(c.length); for (const c of '') print('no'); let s = 'xy'[iterator](); print(s.next().value, s[iterator]() === s, s.next().done, s.next().value, s.next().done, s.next().done);", "1 | 2 | 1 | 1 | 1 | x true false undefined true true"},
		{"let a = [1, 2]; for (const x of a) { print(x); if (a.length < 4) a[a.length] = x * 10; } let i = a.values(); print([...i].length, i.next().done); a[9] = 1; print(i.next().done);", "1 | 2 | 10 | 20 | 4 true | true"},
		{"let o = { length: '2.9', 0: 'a', get 1() { print('get'); return 'b'; }, 2: 'c', [iterator]: [].values }; print(...o); let n = 0; let p = { get length() { print('length'); return n++ < 1 ? 3 : 1; }, [iterator]: [].values }; for (const x of p) print(x);", "get | a b | length | undefined | length"},
		{"let i = [1].values(), r = i.next(); for (const k in r) print(k, r[k]); r = i.next(); for (const k in r) print(k, r[k]); print('constructor' in r); let next = i.next; for (const f of [() => next(), () => ({ next }).next(), () => (0, [].values)()]) try { f(); } catch (e) { print(e.name); }", "value 1 | done false | value undefined | done true | false | TypeError | TypeError | TypeError"},
		{"let i = [1, 2].values(); i.next = () => ({ value: 5, done: n++ > 0 }); let n = 0; print(...i); let j = [1, 2].values(); let k = { [iterator]: () => j, next: 1 }; print(...k);", "5 | 1 2"},
		{"let o = { length: 1, get 0() { print(it.next().done); this.length = 3; return 'a'; }, 1: 'b', 2: 'c', [iterator]: [].values }, it = o[iterator](); print(it.next().value, it.next().done, [...it].length); it = o[iterator](); for (const x of it) print(x);", "true | a true 0 | false | a | c"},
		{"let n = 1, o = { get length() { if (n-- > 0) print(it.next().value); return 3; }, 0: 'a', 1: 'b', 2: 'c', [iterator]: [].values }, it = o[iterator](); print(it.next().value, ...it);", "a | a b c"},
		{"let v = [].values; print([...{ [iterator]: v }].length, [...{ [iterator]: v, length: -3 }].length, [...{ [iterator]: v, length: 'x' }].length); try { [...{ [iterator]: v, length: iterator }]; } catch (e) { print(e.name); } try { [...{ [iterator]: v, length: 1, get 0() { throw 'zero'; } }]; } catch (e) { print(e); }", "0 0 0 | TypeError | zero"},
	})
}

// P21.6: for in.
func TestEnumerations(t *testing.T) {
	holdTraces(t, [][2]string{
		{"for (const v of [null, undefined, 5, true, iterator, '']) for (const k in v) print(k); for (const k in 'x\\u{1F600}') print(k, typeof k); for (const k in [7, 8]) print(k);", "0 string | 1 string | 2 string | 0 | 1"},
		{"function F() { this.a = 1; this[2] = 2; this[iterator] = 3; } F.prototype.b = 4; F.prototype.a = 5; F.prototype[1] = 6; for (const k in new F()) print(k);", "2 | a | 1 | b"},
		{"let o = { a: 1, b: 2, c: 3 }; for (const k in o) { print(k); delete o.b; o.d = 4; } for (const k in print) print(k); for (const k in new Error('x')) print(k);", "a | c"},
		{"let x, o = {}; for (x in { a: 1 }) ; print(x); a: for (const i in 'ab') for (const j in 'ab') { if (j === '1') continue a; print(i, j); } for (const k in o) ; const c = 1; for (c in 'x') ;", "a | 0 0 | 1 0 throws TypeError"},
	})
}

// P21.6: try, catch, finally.
func TestTries(t *testing.T) {
	holdTraces(t, [][2]string{
		{"try { print(1); throw 2; } catch (e) { print(e); } finally { print(3); } try { throw 4; } finally { print(5); }", "1 | 2 | 3 | 5 throws 4"},
		{"let f = () => { try { return print('r'); } finally { print('f'); } }; print(f()); let g = () => { try { throw 1; } finally { return 2; } }; print(g()); let h = () => { for (;;) { try { return 1; } finally { break; } } return 3; }; print(h());", "r | f | undefined | 2 | 3"},
		{"let f = () => { try { throw 1; } catch (e) { try { throw 2; } finally { throw 3; } } finally { print('f'); } }; try { f(); } catch (e) { print(e); }", "f | 3"},
		{"let f = n => { if (n) f(n - 1); else throw 'deep'; print('no'); }; try { f(50); } catch (e) { print(e); } let o = { get a() { throw 'get'; }, toString() { throw 'text'; } }; try { o.a; } catch (e) { print(e); } try { `${o}`; } catch (e) { print(e); }", "deep | get | text"},
		{"let x = 1; let f = () => { try { return x; } finally { x = 2; } }; print(f(), x); a: { try { break a; } finally { print('f'); } print('no'); }", "1 2 | f"},
		{"try { try { undefined(); } catch (e) { print(e.name, e.message === '', e instanceof TypeError, e instanceof Error, e.constructor === TypeError); throw e; } } catch (e) { for (const k in e) print(k); print('message' in e); }", "TypeError true true true true | true"},
	})
}

// P21.6: switch.
func TestSwitch(t *testing.T) {
	holdTraces(t, [][2]string{
		{"switch (3) { case print('a'): case 1: print('b'); default: print('d'); case 3: print('c'); break; case 4: print('e'); }", "a | c"},
		{"switch (9) { case 1: print('b'); default: print('d'); case 3: print('c'); break; case print('x'): print('e'); }", "x | d | c"},
		{"switch ('1') { case 1: print('no'); } switch (NaN) { case NaN: print('no'); } switch (-0) { case 0: print('zero'); } switch (2) { case 1: case 2: case 3: print('m'); } switch (5) { }", "zero | m"},
	})
}

// P21.6: the globals that there are.
func TestGlobals(t *testing.T) {
	holdTraces(t, [][2]string{
		{"print(); print(1, 'a b', null, undefined, true, -0, '\\u{1F600}', '\\ud800'); print(print(2)); print(input(), input(), input(), input());", " | 1 a b null undefined true 0 😀 \uFFFD | 2 | undefined | one two undefined undefined"},
		{things + "print(thing('a', 1, 'x'), thing('b', 1, 'y')); try { print(1, iterator, thing('c', 1, 'z')); } catch (e) { print(e.name); }", "sa | sb | x y | TypeError"},
		{"for (const E of [Error, TypeError, ReferenceError, RangeError, SyntaxError]) { let a = E('m'), b = new E(), c = new E(undefined), d = E(null); print(E.name, E.length, a.name, a.message, a.constructor === E, b.message === '', d.message, a instanceof E, a instanceof Error, E.prototype.name, 'toString' in a); }", "Error 1 Error m true true null true true Error false | TypeError 1 TypeError m true true null true true TypeError false | ReferenceError 1 ReferenceError m true true null true true ReferenceError false | RangeError 1 RangeError m true true null true true RangeError false | SyntaxError 1 SyntaxError m true true null true true SyntaxError false"},
		{things + "print(new Error(thing('a', 1, 'x')).message); try { new Error(iterator); } catch (e) { print(e.name); } print(TypeError.prototype instanceof Error, Error.prototype instanceof TypeError, TypeError.prototype.message === '', Error() instanceof TypeError);", "sa | x | TypeError | true false true false"},
		{"for (const n of ['Object', 'Function', 'Array', 'Symbol', 'String', 'Number', 'Boolean', 'Math', 'Map', 'Set', 'JSON', 'parseInt', 'eval', 'globalThis']) ; print(typeof Object, typeof Function, typeof Array, typeof Symbol, typeof String, typeof Number, typeof Boolean, typeof Math, typeof Map, typeof Set, typeof JSON, typeof parseInt, typeof globalThis);", strings.TrimSuffix(strings.Repeat("undefined ", 13), " ")},
		{"try { null.x; } catch (e) { print(e.name); } finally { print('f'); } throw new RangeError('r');", "TypeError | f throws RangeError: r"},                                  // the document's
		{"for (let x = input(); x !== undefined; x = input()) print(x.length);", "3 | 3"},                                                                                          // the document's
		{"l: for (const a of [1, 2]) { for (const b in { p: 1, q: 2 }) { if (b == 'q') continue l; print(a, b); } } throw new TypeError('no');", "1 p | 2 p throws TypeError: no"}, // the document's
	})
}

// P21.2, P21.6: the script's value.
func TestValue(t *testing.T) {
	for _, x := range [][2]string{
		{"", "undefined"}, {"1;", "1"}, {"print(1 + 2); 'x'", `"x"`}, {"1; let a = 2;", "1"}, {"1; if (0) 2;", "1"}, {"1; if (1) 2; else 3;", "2"}, {"-0", "0"}, {"null", "null"}, {"!0", "true"},
		{"let f = () => { 5; }; f();", "undefined"}, {"1; let f = () => { 5; }, a = f();", "1"}, {"7; (function () { 5; })", "[function ]"}, {"for (let i = 0; i < 3; i++) i;", "2"},
		{"1; try { 2; throw 3; } catch (e) { }", "2"}, {"try { 1; } finally { 2; }", "2"}, {"a: { 3; break a; }", "3"}, {"switch (1) { case 1: 8; }", "8"}, {"1; try { 2 + null.x; } catch (e) { }", "1"},
		{"[1, 2]", "[array 2]"}, {"({})", "[object]"}, {"print", "[function print]"}, {"iterator", "Symbol(Symbol.iterator)"}, {"Error('a')", "Error: a"}, {"new RangeError", "RangeError"}, {"let a = 4; () => a; a;", "4"},
	} {
		o := machine(t, roomy).Source(x[0])
		if want, _ := wanted(t, x[0], 1000); o.End != api.EndNormal || o.Value != x[1] || want.Value != x[1] {
			t.Errorf("%s: end %d, %s, of the walk %s, not %s", x[0], o.End, o.Value, want.Value, x[1])
		}
	}
}
