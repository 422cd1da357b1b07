package parse_test

import (
	"math/rand"
	"slices"
	"strings"
	"testing"

	"lintel/api"
	"lintel/parse"
	"lintel/show"
	"lintel/tree"
)

// P8.1: each line of the grammar, with the places of all nodes.
func TestScript(t *testing.T) {
	for _, c := range [][2]string{
		{"", `(55)`},
		{" ;", `(55 (36 @1))`},
		{"a", `(55 (37 (6 "a")))`},
		{" (a)", `(55 (37 @2 (6 "a" @2)))`},
		{"((a, b))", `(55 (37 @2 (27 @2 (6 "a" @2) (6 "b" @5))))`},
		{"1;2.5", `(55 (37 (1 1)) (37 @2 (1 2.5 @2)))`},
		{"'x';\"y\"", `(55 (37 (2 "x")) (37 @4 (2 "y" @4)))`},
		{"this;null;true;false", `(55 (37 (7)) (37 @5 (5 @5)) (37 @10 (3 @10)) (37 @15 (4 @15)))`},
		{"[]", `(55 (37 (8)))`},
		{"[a, ...b,]", `(55 (37 (8 (6 "a" @1) (29 @4 (6 "b" @7)))))`},
		{" [[1],]", `(55 (37 @1 (8 @1 (8 @2 (1 1 @3)))))`},
		{"({})", `(55 (37 @1 (9 @1)))`},
		{"({a, b: 1, 'c': 2, 3: 4, [d]: 5, if: 6,})", `(55 (37 @1 (9 @1 (10 @2 (2 "a" @2) (6 "a" @2)) (10 @5 (2 "b" @5) (1 1 @8)) (10 @11 (2 "c" @11) (1 2 @16)) (10 @19 (1 3 @19) (1 4 @22)) (10 @25 (56 @25 (6 "d" @26)) (1 5 @30)) (10 @33 (2 "if" @33) (1 6 @37)))))`},
		{"({a(b) {}, [c]() {}, 1(...d) {}})", `(55 (37 @1 (9 @1 (10 @2 (2 "a" @2) (13 @3 (30 @3 (6 "b" @4)) (32 @7))) (10 @11 (56 @11 (6 "c" @12)) (13 @14 (30 @14) (32 @17))) (10 @21 (1 1 @21) (13 @22 (30 @22 (31 "d" @23)) (32 @29))))))`},
		{"({get a() {}, set b(c) {}, get [d]() {}, set 1(e) {}, get if() {}})", `(55 (37 @1 (9 @1 (11 @2 (2 "a" @6) (13 @7 (30 @7) (32 @10))) (12 @14 (2 "b" @18) (13 @19 (30 @19 (6 "c" @20)) (32 @23))) (11 @27 (56 @31 (6 "d" @32)) (13 @34 (30 @34) (32 @37))) (12 @41 (1 1 @45) (13 @46 (30 @46 (6 "e" @47)) (32 @50))) (11 @54 (2 "if" @58) (13 @60 (30 @60) (32 @63))))))`},
		{"({get, set})", `(55 (37 @1 (9 @1 (10 @2 (2 "get" @2) (6 "get" @2)) (10 @7 (2 "set" @7) (6 "set" @7)))))`},
		{"({get: 1, set() {}})", `(55 (37 @1 (9 @1 (10 @2 (2 "get" @2) (1 1 @7)) (10 @10 (2 "set" @10) (13 @13 (30 @13) (32 @16))))))`},
		{"({get get() {}, set set(set) {}})", `(55 (37 @1 (9 @1 (11 @2 (2 "get" @6) (13 @9 (30 @9) (32 @12))) (12 @16 (2 "set" @20) (13 @23 (30 @23 (6 "set" @24)) (32 @29))))))`},
		{"({get\na() {}})", `(55 (37 @1 (9 @1 (11 @2 (2 "a" @6) (13 @7 (30 @7) (32 @10))))))`},
		{"(function() {})", `(55 (37 @1 (13 @1 (30 @9) (32 @12))))`},
		{"(function f(a, b, ...c) { return })", `(55 (37 @1 (13 "f" @1 (30 @11 (6 "a" @12) (6 "b" @15) (31 "c" @18)) (32 @24 (46 @26)))))`},
		{"a => b", `(55 (37 (14 (30 (6 "a")) (6 "b" @5))))`},
		{"(a) => b", `(55 (37 (14 (30 (6 "a" @1)) (6 "b" @7))))`},
		{"() => {}", `(55 (37 (14 (30) (32 @6))))`},
		{"(a, ...b) => ({})", `(55 (37 (14 (30 (6 "a" @1) (31 "b" @4)) (9 @14))))`},
		{"(...a) => a, b", `(55 (37 (27 (14 (30 (31 "a" @1)) (6 "a" @10)) (6 "b" @13))))`},
		{"a => b => c", `(55 (37 (14 (30 (6 "a")) (14 @5 (30 @5 (6 "b" @5)) (6 "c" @10)))))`},
		{"a()", `(55 (37 (15 (6 "a"))))`},
		{"(a)(b, ...c)", `(55 (37 @1 (15 @1 (6 "a" @1) (6 "b" @4) (29 @7 (6 "c" @10)))))`},
		{"a.b", `(55 (37 (17 "b" (6 "a"))))`},
		{" (a).in", `(55 (37 @2 (17 "in" @2 (6 "a" @2))))`},
		{"(a)[b, c]", `(55 (37 @1 (18 @1 (6 "a" @1) (27 @4 (6 "b" @4) (6 "c" @7)))))`},
		{"new a", `(55 (37 (16 (6 "a" @4))))`},
		{"new a()", `(55 (37 (16 (6 "a" @4))))`},
		{"new (a)(b)", `(55 (37 (16 (6 "a" @5) (6 "b" @8))))`},
		{"new a.b[c](d)(e).f", `(55 (37 (17 "f" (15 (16 (18 @4 (17 "b" @4 (6 "a" @4)) (6 "c" @8)) (6 "d" @11)) (6 "e" @14)))))`},
		{"new new a(b)(c)", `(55 (37 (16 (16 @4 (6 "a" @8) (6 "b" @10)) (6 "c" @13))))`},
		{"new new a", `(55 (37 (16 (16 @4 (6 "a" @8)))))`},
		{"new (a())", `(55 (37 (16 (15 @5 (6 "a" @5)))))`},
		{"new (a().b)", `(55 (37 (16 (17 "b" @5 (15 @5 (6 "a" @5))))))`},
		{"!a", `(55 (37 (19 "!" (6 "a" @1))))`},
		{"- -a", `(55 (37 (19 "-" (19 "-" @2 (6 "a" @3)))))`},
		{"typeof (void a)", `(55 (37 (19 "typeof" (19 "void" @8 (6 "a" @13)))))`},
		{"delete a.b", `(55 (37 (19 "delete" (17 "b" @7 (6 "a" @7)))))`},
		{"++a", `(55 (37 (20 "++" (6 "a" @2))))`},
		{"-- (a)", `(55 (37 (20 "--" (6 "a" @4))))`},
		{"(a)++", `(55 (37 @1 (21 "++" @1 (6 "a" @1))))`},
		{"a.b--", `(55 (37 (21 "--" (17 "b" (6 "a")))))`},
		{"a\n++\nb", `(55 (37 (6 "a")) (37 @2 (20 "++" @2 (6 "b" @5))))`},
		{"a + b", `(55 (37 (22 "+" (6 "a") (6 "b" @4))))`},
		{"(a + b) * c", `(55 (37 @1 (22 "*" @1 (22 "+" @1 (6 "a" @1) (6 "b" @5)) (6 "c" @10))))`},
		{"a - b - c", `(55 (37 (22 "-" (22 "-" (6 "a") (6 "b" @4)) (6 "c" @8))))`},
		{"a - (b - c)", `(55 (37 (22 "-" (6 "a") (22 "-" @5 (6 "b" @5) (6 "c" @9)))))`},
		{"a ** b ** c", `(55 (37 (22 "**" (6 "a") (22 "**" @5 (6 "b" @5) (6 "c" @10)))))`},
		{"(-a) ** b", `(55 (37 @1 (22 "**" @1 (19 "-" @1 (6 "a" @2)) (6 "b" @8))))`},
		{"++a ** b", `(55 (37 (22 "**" (20 "++" (6 "a" @2)) (6 "b" @7))))`},
		{"a ** -b", `(55 (37 (22 "**" (6 "a") (19 "-" @5 (6 "b" @6)))))`},
		{"a && b || c && d", `(55 (37 (24 (23 (6 "a") (6 "b" @5)) (23 @10 (6 "c" @10) (6 "d" @15)))))`},
		{"a || (b || c)", `(55 (37 (24 (6 "a") (24 @6 (6 "b" @6) (6 "c" @11)))))`},
		{"a in b instanceof c", `(55 (37 (22 "instanceof" (22 "in" (6 "a") (6 "b" @5)) (6 "c" @18))))`},
		{"a < b == c & d ^ e | f", `(55 (37 (22 "|" (22 "^" (22 "&" (22 "==" (22 "<" (6 "a") (6 "b" @4)) (6 "c" @9)) (6 "d" @13)) (6 "e" @17)) (6 "f" @21))))`},
		{"a << b + c * d", `(55 (37 (22 "<<" (6 "a") (22 "+" @5 (6 "b" @5) (22 "*" @9 (6 "c" @9) (6 "d" @13))))))`},
		{"a ? b : c ? d : e", `(55 (37 (25 (6 "a") (6 "b" @4) (25 @8 (6 "c" @8) (6 "d" @12) (6 "e" @16)))))`},
		{"a ? b = c : d = e", `(55 (37 (25 (6 "a") (26 "=" @4 (6 "b" @4) (6 "c" @8)) (26 "=" @12 (6 "d" @12) (6 "e" @16)))))`},
		{"(a ? b : c) ? d : e", `(55 (37 @1 (25 @1 (25 @1 (6 "a" @1) (6 "b" @5) (6 "c" @9)) (6 "d" @14) (6 "e" @18))))`},
		{"a = b += c", `(55 (37 (26 "=" (6 "a") (26 "+=" @4 (6 "b" @4) (6 "c" @9)))))`},
		{"(a) = 1", `(55 (37 @1 (26 "=" @1 (6 "a" @1) (1 1 @6))))`},
		{"a.b **= 1", `(55 (37 (26 "**=" (17 "b" (6 "a")) (1 1 @8))))`},
		{"a[b] >>>= (c, d)", `(55 (37 (26 ">>>=" (18 (6 "a") (6 "b" @2)) (27 @11 (6 "c" @11) (6 "d" @14)))))`},
		{"`x`", `(55 (37 (28 (2 "x"))))`},
		{"`a${b}c${d, e}f`", `(55 (37 (28 (2 "a") (6 "b" @4) (2 "c" @5) (27 @9 (6 "d" @9) (6 "e" @12)) (2 "f" @13))))`},
		{"`${`${a}`}`", `(55 (37 (28 (2 "") (28 @3 (2 "" @3) (6 "a" @6) (2 "" @7)) (2 "" @9))))`},
		{"{}", `(55 (32))`},
		{"{ a; b }", `(55 (32 (37 @2 (6 "a" @2)) (37 @5 (6 "b" @5))))`},
		{"let a", `(55 (33 (35 "a" @4)))`},
		{"let a = 1, b\nconst c = a, d = b", `(55 (33 (35 "a" @4 (1 1 @8)) (35 "b" @11)) (34 @13 (35 "c" @19 (6 "a" @23)) (35 "d" @26 (6 "b" @30))))`},
		{"function f() {}", `(55 (53 "f" (30 @10) (32 @13)))`},
		{"function f(a) { return a; }", `(55 (53 "f" (30 @10 (6 "a" @11)) (32 @14 (46 @16 (6 "a" @23)))))`},
		{"if (a) b", `(55 (38 (6 "a" @4) (37 @7 (6 "b" @7))))`},
		{"if (a) b; else c", `(55 (38 (6 "a" @4) (37 @7 (6 "b" @7)) (37 @15 (6 "c" @15))))`},
		{"if (a) if (b) c; else d", `(55 (38 (6 "a" @4) (38 @7 (6 "b" @11) (37 @14 (6 "c" @14)) (37 @22 (6 "d" @22)))))`},
		{"if (a) {} else if (b) {} else {}", `(55 (38 (6 "a" @4) (32 @7) (38 @15 (6 "b" @19) (32 @22) (32 @30))))`},
		{"while (a) b", `(55 (42 (6 "a" @7) (37 @10 (6 "b" @10))))`},
		{"do a; while (b)", `(55 (43 (37 @3 (6 "a" @3)) (6 "b" @13)))`},
		{"do {} while (a) b", `(55 (43 (32 @3) (6 "a" @13)) (37 @16 (6 "b" @16)))`},
		{"do ; while (a);", `(55 (43 (36 @3) (6 "a" @12)))`},
		{"for (;;) ;", `(55 (39 (54) (54) (54) (36 @9)))`},
		{"for (a; b; c) d", `(55 (39 (6 "a" @5) (6 "b" @8) (6 "c" @11) (37 @14 (6 "d" @14))))`},
		{"for (let a = 1, b; a; b) {}", `(55 (39 (33 @5 (35 "a" @9 (1 1 @13)) (35 "b" @16)) (6 "a" @19) (6 "b" @22) (32 @25)))`},
		{"for (const a = (b in c); ; ) ;", `(55 (39 (34 @5 (35 "a" @11 (22 "in" @16 (6 "b" @16) (6 "c" @21)))) (54) (54) (36 @29)))`},
		{"for (a in b) c", `(55 (40 (6 "a" @5) (6 "b" @10) (37 @13 (6 "c" @13))))`},
		{"for (let a in b, c) ;", `(55 (40 (33 @5 (35 "a" @9)) (27 @14 (6 "b" @14) (6 "c" @17)) (36 @20)))`},
		{"for (const a of b) ;", `(55 (41 (34 @5 (35 "a" @11)) (6 "b" @16) (36 @19)))`},
		{"for (of of of) ;", `(55 (41 (6 "of" @5) (6 "of" @11) (36 @15)))`},
		{"for (let of of of => of) ;", `(55 (41 (33 @5 (35 "of" @9)) (14 @15 (30 @15 (6 "of" @15)) (6 "of" @21)) (36 @25)))`},
		{"for (a ? b in c : d; ;) ;", `(55 (39 (25 @5 (6 "a" @5) (22 "in" @9 (6 "b" @9) (6 "c" @14)) (6 "d" @18)) (54) (54) (36 @24)))`},
		{"a: for (;;) { break; continue; break a; continue a }", `(55 (52 "a" (39 @3 (54) (54) (54) (32 @12 (44 @14) (45 @21) (44 "a" @31) (45 "a" @40)))))`},
		{"return", `(55 (46))`},
		{"return a, b;", `(55 (46 (27 @7 (6 "a" @7) (6 "b" @10))))`},
		{"return\na", `(55 (46) (37 @7 (6 "a" @7)))`},
		{"throw a", `(55 (47 (6 "a" @6)))`},
		{"try {} catch (e) {}", `(55 (48 "e" (32 @4) (32 @17) (54)))`},
		{"try {} finally {}", `(55 (48 (32 @4) (54) (32 @15)))`},
		{"try { a } catch (e) { b } finally { c }", `(55 (48 "e" (32 @4 (37 @6 (6 "a" @6))) (32 @20 (37 @22 (6 "b" @22))) (32 @34 (37 @36 (6 "c" @36)))))`},
		{"switch (a) {}", `(55 (49 (6 "a" @8)))`},
		{"switch (a) { case b: c; d; case e: default: f }", `(55 (49 (6 "a" @8) (50 @13 (6 "b" @18) (37 @21 (6 "c" @21)) (37 @24 (6 "d" @24))) (50 @27 (6 "e" @32)) (51 @35 (37 @44 (6 "f" @44)))))`},
		{"a: b: ;", `(55 (52 "a" (52 "b" @3 (36 @6))))`},
		{"a\nb", `(55 (37 (6 "a")) (37 @2 (6 "b" @2)))`},
		{"a\n(b)", `(55 (37 (15 (6 "a") (6 "b" @3))))`},
		{"a\n++b", `(55 (37 (6 "a")) (37 @2 (20 "++" @2 (6 "b" @4))))`},
		{"a => {}\n(b)", `(55 (37 (14 (30 (6 "a")) (32 @5))) (37 @9 (6 "b" @9)))`},
		{"a /* \n */ b", `(55 (37 (6 "a")) (37 @10 (6 "b" @10)))`},
		{"a // b\n c", `(55 (37 (6 "a")) (37 @8 (6 "c" @8)))`},
		{"break\na", `(55 (44) (37 @6 (6 "a" @6)))`},
		{"a\n`b`", `(55 (37 (6 "a")) (37 @2 (28 @2 (2 "b" @2))))`},
		{"a\n.b\n[c]\n+ d", `(55 (37 (22 "+" (18 (17 "b" (6 "a")) (6 "c" @6)) (6 "d" @11))))`},
	} {
		l, at, e := parse.Script(c[0])
		if s, _ := show.Lisp(l); s != c[1] || at != 0 || e != api.OK {
			t.Errorf("%q: %s, %d, %d\nwant %s", c[0], s, at, e, c[1])
		}
	}
}

// P8.2: one expression, which may begin as no statement does.
func TestExpr(t *testing.T) {
	for _, c := range [][2]string{
		{"a", `(55 (37 (6 "a")))`},
		{" (a, b)\n", `(55 (37 @2 (27 @2 (6 "a" @2) (6 "b" @5))))`},
		{"a, b", `(55 (37 (27 (6 "a") (6 "b" @3))))`},
		{"{}", `(55 (37 (9)))`},
		{"{a: 1}.a", `(55 (37 (17 "a" (9 (10 @1 (2 "a" @1) (1 1 @4))))))`},
		{"{a}", `(55 (37 (9 (10 @1 (2 "a" @1) (6 "a" @1)))))`},
		{"function() {}", `(55 (37 (13 (30 @8) (32 @11))))`},
		{"function f() { a; b }()", `(55 (37 (15 (13 "f" (30 @10) (32 @13 (37 @15 (6 "a" @15)) (37 @18 (6 "b" @18)))))))`},
		{"a\n=> b", ""}, {"a in b", `(55 (37 (22 "in" (6 "a") (6 "b" @5))))`},
		{"a => {}", `(55 (37 (14 (30 (6 "a")) (32 @5))))`},
	} {
		l, at, e := parse.Expr(c[0])
		if s, _ := show.Lisp(l); s != c[1] || (at != 0 || e != api.OK) != (c[1] == "") {
			t.Errorf("%q: %s, %d, %d\nwant %s", c[0], s, at, e, c[1])
		}
	}
}

// scriptOf is the tree of a source, which must be a script.
func scriptOf(t *testing.T, src string) []api.Node {
	t.Helper()
	l, at, e := parse.Script(src)
	if at != 0 || e != api.OK {
		t.Fatalf("%q: %d, error %d", src, at, e)
	}
	if at, e := tree.Check(l); e != api.OK {
		t.Fatalf("%q: no tree: %d, error %d", src, at, e)
	}
	return l
}

// lispOf is a tree in parentheses.
func lispOf(t *testing.T, l []api.Node) string {
	t.Helper()
	s, e := show.Lisp(l)
	if e != api.OK {
		t.Fatal(e)
	}
	return s
}

// drawn is a tree in parentheses without places.
func drawn(t *testing.T, l []api.Node) string {
	t.Helper()
	l = slices.Clone(l)
	for i := range l {
		l[i].At = 0
	}
	return lispOf(t, l)
}

// holdBack holds P8.3 of a tree that Script made.
func holdBack(t *testing.T, l []api.Node) {
	t.Helper()
	src, e := show.Source(l)
	if e != api.OK {
		t.Fatal(e)
	}
	if got, want := drawn(t, scriptOf(t, src)), drawn(t, l); got != want {
		t.Fatalf("%q: %s\nwant %s", src, got, want)
	}
}

// P8.1, P8.3: sources as they come, with blanks, comments, ends of lines, parentheses that needn't be
// and semicolons left out, and the trees that they are, places and all.
func TestAsMade(t *testing.T) {
	r := rand.New(rand.NewSource(83))
	for range 20000 {
		src, want := scriptAsItComes(r, r.Intn(7))
		l := scriptOf(t, src)
		if got := lispOf(t, l); got != want {
			t.Fatalf("%q: %s\nwant %s", src, got, want)
		}
		holdBack(t, l)
	}
}

// P8.3: trees that are as deep as they may be.
func TestBackDeep(t *testing.T) {
	for _, frame := range []string{
		"_+a", "a+(_)", "(_)**a", "a**_", "-(_)", "_.a", "_[a]", "a[_]", "a(_)", "(_)(a)", "new(_)(a)", "new(_)", "_?a:b", "a?_:b", "a?b:_", "a=_", "(_,a)", "(a,_)", "[_]", "({a:_})", "({[_]:a})", "a=>(_)", "a=>{_}",
		"(function(){_})", "`${_}`", "({get a(){_}})", "a||(_)", "(_)in a", "(a in(_))", "({a(){return _}})", "(b=>{throw _})", "(b=>{if(_);else c})", "(b=>{for(_;;);})", "(b=>{for(let a=(_);;);})", "(b=>{for(a of(_));})", "(b=>{a:{_}})",
	} {
		src := "a"
		for {
			more := strings.Replace(frame, "_", src, 1)
			if _, _, e := parse.Script("a=(" + more + ")"); e != api.OK {
				break
			}
			src = more
		}
		l := scriptOf(t, "a=("+src+")")
		if tree.Deep(l) < 100 && strings.Count(src, "(")+strings.Count(src, "[")+strings.Count(src, "{") < 140 {
			t.Errorf("%s: %d deep", frame, tree.Deep(l))
		}
		holdBack(t, l)
	}
}

// goesOnAfter says whether a token could go on with the statement ahead of it: ; would end it.
func goesOnAfter(text string) bool {
	return text == ";" || slices.Contains(strings.Fields("( [ + - * / % , . < > = & | ^ ? : in instanceof"), text) || text[0] == '`'
}

// P8.4: semicolons at the ends of lines, and ahead of }, are left out here and there.
func TestSemicolons(t *testing.T) {
	r := rand.New(rand.NewSource(84))
	c := newChart(strings.Replace(strict, "end : ';' | auto", "end : auto", 1))
	made, left := 0, 0
	for range 800 {
		tokens := c.some(r, "script", 4+r.Intn(30))
		var whole, some strings.Builder
		for i, s := range tokens {
			last := i == len(tokens)-1
			switch {
			case s != "auto":
				whole.WriteString(s + " ")
				some.WriteString(s + " ")
				continue
			case r.Intn(4) == 0 || !last && goesOnAfter(tokens[i+1]):
				some.WriteString(";\n")
			case last || tokens[i+1] == "}":
				left++
			default:
				some.WriteString("\n")
				left++
			}
			whole.WriteString(";\n")
		}
		l, _, e := parse.Script(whole.String())
		if e != api.OK { // its tokens are such as begin a statement or an arrow's block elsewhere
			continue
		}
		made++
		if got, want := drawn(t, scriptOf(t, some.String())), drawn(t, l); got != want {
			t.Fatalf("%q: %s\nwant, as of %q, %s", some.String(), got, whole.String(), want)
		}
		holdBack(t, l)
	}
	if made < 700 || left < 1000 {
		t.Error(made, left)
	}
}

// P8.4: each kind of statement that has an end, ahead of what may stand behind it.
func TestEnds(t *testing.T) {
	for _, s := range []string{"a", "a++", "(a)", "a=>b", "a=>{}", "let a", "let a=1", "const a=b,c", "break", "continue", "return", "return a", "throw a", "[]", "'a'", "`a`", "1", "a.b", "new a", "x=function(){}", "x={}", "break b", "continue b"} {
		for _, next := range []string{"b", "let b", "{}", "++b", "--b", "!b", "~b", "typeof b", "'b'", "1", ".5", "if(b);", "function f(){}", "this", "new b", "b:c", "b=>c", "of", "delete b.c", ""} {
			for _, line := range []string{"\n", "\r", "\r\n", "\u2028", "\u2029", "//\n", "/*\n*/"} {
				want := drawn(t, scriptOf(t, s+";"+line+next))
				if got := drawn(t, scriptOf(t, s+" "+line+next)); got != want {
					t.Errorf("%q, %q, %q: %s\nwant %s", s, line, next, got, want)
				}
			}
		}
		if got, want := drawn(t, scriptOf(t, "{"+s+"}")), drawn(t, scriptOf(t, "{"+s+";}")); got != want {
			t.Errorf("%q: %s\nwant %s", s, got, want)
		}
	}
	for _, s := range []string{"(b)", "[b]", "+b", "-b", "*b", "/b", "%b", ",b", ".b", "<b", ">b", "=b", "&b", "|b", "^b", "?b:c", "in b", "instanceof b", "**b", "==b", "+=b", "&&b", "||b"} {
		if got, want := drawn(t, scriptOf(t, "a\n"+s)), drawn(t, scriptOf(t, "a "+s)); got != want {
			t.Errorf("%q: %s\nwant %s", s, got, want)
		}
	}
}

// P2, P3: an answer's lists are its own, and the same source is the same tree.
func TestOwnMemory(t *testing.T) {
	src := "let a=[b,...c],d;for(a of f(1,2,...g))({get c(){},a,b(x,...y){}});switch(a){case 1:a;b;default:}`a${b}c${d}e`,a,b"
	l := scriptOf(t, src)
	want := lispOf(t, l)
	for i := range l {
		grown := append(l[i].Kids, -1)
		grown[len(grown)-1] = -2
	}
	if got := lispOf(t, l); got != want {
		t.Error(got)
	}
	for i := range l {
		for k := range l[i].Kids {
			l[i].Kids[k] = -1
		}
	}
	if got := lispOf(t, scriptOf(t, src)); got != want {
		t.Error(got)
	}
}
