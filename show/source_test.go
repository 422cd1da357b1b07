package show_test

import (
	"math"
	"math/rand"
	"strconv"
	"strings"
	"testing"

	"lintel/api"
	"lintel/lex"
	"lintel/show"
	"lintel/tree"
	"lintel/units"
)

// treeOf is the tree of a source that the grammar has.
func treeOf(t *testing.T, src string) []api.Node {
	t.Helper()
	l, ok := parsed(src)
	if !ok {
		t.Fatalf("no script: %.300s", src)
	}
	if at, e := tree.Check(l); e != api.OK {
		t.Fatalf("%.300s: no tree: %d, %d", src, at, e)
	}
	return l
}

// holdSource asks for a source of l, and holds what the grammar makes of it against l.
func holdSource(t *testing.T, l []api.Node) string {
	t.Helper()
	s, e := show.Source(l)
	if e != api.OK {
		t.Fatalf("%.300s: error %d", drawn(l), e)
	}
	m, ok := parsed(s)
	if !ok || drawn(m) != drawn(l) {
		t.Fatalf("Source: %.1000s\nof %.1000s\nis %v %.1000s", s, drawn(l), ok, drawn(m))
	}
	return s
}

// P7.1: each thing that the grammar has, and what would be read otherwise without parentheses, blanks
// or semicolons. All of these sources are short ones: that of their tree is none longer.
func TestSource(t *testing.T) {
	for _, src := range []string{
		"", ";", ";;", "a", "a;b", "a;;b", "{}", "{a}", "{a;b}", "{;}", "{}a", "{{}}",
		"let a", "let a=1,b,c=d", "const a=1", "const a", "let of;let get=set", "let a=(b,c)",
		"function a(){}", "function a(b,c,...d){return}", "function a(...b){}function b(){}", "function a(){}(b)",
		"if(a)b", "if(a)b;else c", "if(a){}else{}", "if(a);else;", "if(a);", "if(a)if(b)c;else d", "if(a)if(b)c;else d;else e",
		"if(a){if(b)c}else d", "if(a);else if(b);else c", "if(a,b)c",
		"while(a)b", "while(a,b);c", "while(a){}b", "while(a)while(b);", "do a;while(b)", "do{}while(a)b", "do;while(a);;", "do;while(a)(b)", "do;while(a)++b",
		"do do;while(a)while(b)", "if(a)do;while(b)else c", "if(a)do;while(b);else;", "do if(a)b;while(c)", "{do;while(a)}", "do;while(a)do;while(b)",
		"for(;;);", "for(a;b;c)d", "for(let a;;);", "for(let a=1,b;a;a++){}", "for(const a=1;;);", "for(a,b;;);", "for(of;;);", "for(of=>a;;);",
		"for((a in b);;);", "for(let a=(b in c);;);", "for(a=(b in c);;);", "for(a?b in c:d;;);", "for([a in b];;);", "for({a:b in c};;);", "for(`${a in b}`;;);",
		"for(a(b in c);;);", "for(a[b in c];;);", "for(let a=b=>{c in d};;);", "for(let a=b=>(c in d);;);", "for(let a=function(){b in c};;);",
		"for(let a=(b in c)+d;;);", "for(let a=b?c:(d in e);;);", "for(;a in b;a in b);", "for(;a,b;c,d);", "let a=b in c", "for({}.a;;);", "for(function(){};;);", "for(let a=b.in;;);",
		"for(a in b)c", "for(a in b,c);", "for(let a in b in c);", "for(const a in{});", "for(of in of);",
		"for(a of b)c", "for(let a of b);", "for(const a of[b]);", "for(of of of);", "for(let of of of);", "for(a of(b,c));", "for(a of b=c);", "for(a of b=>c);", "for(a of.5);",
		"for(a of b in c);", "break", "break a", "continue;continue a;", "return", "return a", "return;a", "return[a]", "return-a", "return.5", "return a,b", "throw a",
		"throw{}", "try{}catch(a){}", "try{}finally{}", "try{a}catch(of){b}finally{c}d",
		"switch(a){}", "switch(a){case b:}", "switch(a){case b:c;case d:default:}", "switch(a){default:b;;case c,d:e}f", "switch(a){case b?c:d:}", "switch(a){case a=>b:}",
		"switch(a){case 1:case\"a\":case.5:{}}", "a:b", "a:b:;", "a:{}", "a:for(;;)break a", "of:while(a)continue of", "if(a)b:c;else d",
	} {
		l := treeOf(t, src)
		if s := holdSource(t, l); len(s) > len(src) {
			t.Errorf("%s: %s", src, s)
		}
	}
}

// P7.1: the same of expressions.
func TestSourceOfExpressions(t *testing.T) {
	for _, src := range []string{
		"this", "null", "true", "false", "[]", "[a,...b,c]", "[(a,b)]", "[[a]]", "[...a=b]", "[a=>b]",
		"({})", "({}).a", "({}.a)", "({})+a", "({}),a", "({})?a:b", "({})()", "({}).a=b", "({}).a++", "a={}", "[{}]", "-{}", "++{}.a", "new{}", "!function(){}",
		"(function(){})", "(function(){})()", "(function a(){}).b", "(function(){}()+a)", "a=function a(b){c}", "[function(){}]", "new function(){}",
		"({a})", "({a,b})", "({a:b})", "({a:1,b:2})", "({if:a})", "({\"a b\":c})", "({\"\":a})", "({1:a})", "({\"1\":a})", "({[a]:b})", "({[(a,b)]:c})", "({[\"a\"]:a})", "({a:(b,c)})",
		"({a(){}})", "({a(b,...c){d}})", "({[a](){}})", "({1(){}})", "({\"\"(){}})", "({if(){}})", "({a:function b(){}})", "({a:()=>{}})", "({a:b=>c})",
		"({get a(){}})", "({set a(b){}})", "({get 1(){}})", "({get\"\"(){}})", "({get[a](){}})", "({set[a](b){}})", "({get get(){},set set(a){}})", "({get if(){}})", "({set.5(a){}})",
		"({get})", "({set})", "({get:a,set:b})", "({get(){},set(){}})", "({get,set})", "({a:1,get b(){return c}})", "({of,eval})",
		"a=>b", "()=>a", "(a,b)=>c", "(...a)=>b", "(a,...b)=>c", "a=>{}", "a=>({})", "a=>({}).b", "a=>({}.b=c)", "a=>function(){}", "a=>b=>c", "a=>b=c", "a=>(b,c)", "a=>b,c", "a=>{},b",
		"(a=>b)()", "(a=>b).c", "(a=>b)||c", "a||(b=>c)", "(a=>b)?c:d", "a?b=>c:d=>e", "a=b=>c", "[a=>b]", "a(b=>c)", "(a=>{})()", "-(a=>b)", "new(a=>b)", "a=>[b]", "of=>of", "(a=>b)**c",
		"a()", "a(b,...c)", "a((b,c))", "a()()", "a.b()", "a().b", "a[b]()", "a()[b]", "(a,b)()", "(a||b)()", "(a=b).c", "(-a).b", "-a.b", "(a++).b",
		"new a", "new a(b)", "new a(...b)", "new a((b,c))", "new a.b", "new a.b(c)", "new a[b]", "(new a).b", "(new a)()", "(new a)[b]", "new a(b).c", "new a(b)()", "new a(b)(c)",
		"new(a())", "new(a())(b)", "new(a().b)", "new(a().b)(c)", "new(a()[b])", "new a[b()]", "new(a.b())", "new new a", "new new a(b)", "new(new a)(b)", "new new a(b)(c)", "new(new a).b", "new new a(b).c",
		"new new a.b", "(new new a).b", "new(a,b)", "new(a+b)", "new(-a)", "new(a=b)", "new this", "new[a]", "new 1", "new\"a\"", "new`a`", "typeof new a", "new a+b", "new(a().b.c)", "new(a()).b",
		"a.b", "a.in", "a.new.of", "a[b]", "a[b,c]", "a[b][c]", "1 .a", "1.5.a", "1e30.a", ".5.a", "0 .a", "1[a]", "\"a\".b", "`a`.b", "[].a", "this.a", "null.a",
		"!a", "~a", "+a", "-a", "typeof a", "void a", "delete a.b", "!!a", "- -a", "+ +a", "-+a", "+-a", "- --a", "+ ++a", "-++a", "typeof typeof a", "typeof(a,b)", "typeof(a+b)", "-(a*b)",
		"typeof-a", "-typeof a", "void 0", "!(a in b)", "!a in b", "++a", "--a.b", "a++", "a[b]--", "++a.b[c]",
		"a+b", "a-b", "a+b+c", "a+(b+c)", "a-b-c", "a-(b-c)", "a*b+c", "a*(b+c)", "(a+b)*c", "a+b*c", "a%b/c*d", "a%(b/c)", "a<<b>>c>>>d", "a<<(b>>c)", "a<b", "a<(b<c)", "a<b<c",
		"a in b", "a in(b in c)", "a in b in c", "a instanceof b", "a in[b]", "[a]in b", "\"a\"in b", "1 in a", "a instanceof b in c",
		"a==b", "a===b!=c!==d", "a==(b==c)", "a&b", "a&(b&c)", "a^b|c&d", "(a^b)&(c|d)", "a|(b|c)", "a&&b||c", "a||b&&c", "(a||b)&&c", "a||(b||c)", "a&&(b&&c)", "a||b||c", "a==b&c", "(a&b)==c",
		"a**b", "a**b**c", "(a**b)**c", "(-a)**b", "-(a**b)", "a**-b", "++a**b", "a++**b", "(+a)**b", "(typeof a)**b", "a**b*c", "a*b**c", "(a*b)**c", "a**(b*c)", "a**(-b)**c", "a**typeof b", "new a**b", "a.b**c",
		"a+ +b", "a+ ++b", "a- -b", "a- --b", "a-+b", "a+-b", "a--<b", "a<!--b", "a-- >b", "a<-b",
		"a?b:c", "a?b:c?d:e", "(a?b:c)?d:e", "a?b?c:d:e", "a?b=c:d=e", "a?(b,c):(d,e)", "(a,b)?c:d", "(a=b)?c:d", "a||b?c:d", "a=b?c:d", "a?.5:.1", "a?{}:b",
		"a=b", "a=b=c", "a.b=c", "a[b]=c", "a=(b,c)", "a+=b-=c", "a**=b", "a>>>=b<<=c>>=d", "a&=b|=c^=d", "a*=b/=c%=d", "(a=b)+c", "a+(b=c)", "a,b,c", "a,(b,c)", "(a,b),c", "(a,b)+c",
		"``", "`a`", "`${a}`", "`a${b}c${d}e`", "`${a}${b}`", "`${a,b}`", "`${{}}`", "`${`${a}`}`", "`$`", "`$${a}$`", "`\\${a}`", "`{`", "`}`", "`\\``", "`\\\\`", "`\n`", "`\\r`", "`$\\`{`", "`${a=>{b}}`",
		"\"\"", "\"a\"", "'\"'", "\"'\"", "'\"\"\\''", "\"\\n\\r\"", "\"\\\\\"", "\"\x00\x01\t\x7f\"", "\"\u20ac\u2028\u2029\U0001F600\"", "\"`${a}\"", "\"\\ud800\"", "`\\udc00`", "\"\\ud83d\U0001F600\\ude00\"", "'use strict'",
	} {
		l := treeOf(t, src)
		if s := holdSource(t, l); len(s) > len(src) {
			t.Errorf("%s: %s", src, s)
		}
	}
}

// P7.1: names of all letters, one behind the other.
func TestSourceOfNames(t *testing.T) {
	for _, c := range "abcdefghijklmnopqrstuvwxyzABCDEFGHIJKLMNOPQRSTUVWXYZ$_" {
		for _, d := range []string{"", "0", "9", "z", "Z", "$"} {
			name := string(c) + d
			for _, src := range []string{"_ in _", "return _", "for(_ of _);", "if(a);else _", "typeof _ instanceof _", "({get _(){}})", "1 in _", "new _"} {
				holdSource(t, treeOf(t, strings.ReplaceAll(src, "_", name)))
			}
		}
	}
}

// P7.1: number literals.
func TestSourceOfNumbers(t *testing.T) {
	for _, c := range []struct {
		x    float64
		want int // so many bytes at most
	}{
		{0, 1}, {1, 1}, {9, 1}, {10, 2}, {100, 3}, {1000, 3}, {1200, 4}, {12000, 4}, {123, 3}, {0.5, 2}, {0.05, 3}, {0.001, 4}, {0.0001, 4}, {1.5, 3}, {123.456, 7},
		{1e21, 4}, {1e-7, 4}, {5e-324, 6}, {math.MaxFloat64, 21}, {math.Inf(1), 5}, {1 << 53, 16}, {1e300, 5}, {2.2250738585072014e-308, 22}, {0.1 + 0.2, 18},
		{123456789012345680000, 19}, {4294967296.5, 12},
	} {
		for _, src := range []string{"_", "_ .a", "_[a]", "-_", "a=_", "_ in a", "return _", "({_:a})", "({get _(){}})"} {
			l := treeOf(t, strings.Replace(src, "_", "7", 1))
			for i := range l {
				if l[i].Kind == api.NodeNum {
					l[i].Num = c.x
				}
			}
			if s := holdSource(t, l); src == "_" && len(s) > c.want {
				t.Errorf("%g: %s", c.x, s)
			}
		}
	}
	r := rand.New(rand.NewSource(7))
	for range 20000 {
		x := math.Abs(math.Float64frombits(r.Uint64()))
		if r.Intn(2) == 0 {
			x = math.Trunc(r.Float64() * math.Pow(10, float64(r.Intn(25))))
		}
		if r.Intn(4) == 0 {
			x = float64(r.Intn(1000)) * math.Pow(10, float64(r.Intn(40)-20))
		}
		if !math.IsNaN(x) {
			s := holdSource(t, []api.Node{{Kind: api.NodeNum, Num: x}, {Kind: api.NodeDot, Text: "a", Kids: []int{0}}, {Kind: api.NodeExpr, Kids: []int{1}}, {Kind: api.NodeScript, Kids: []int{2}}})
			if shown := strconv.FormatFloat(x, 'g', -1, 64); !math.IsInf(x, 0) && len(s) > len(shown)+len(" .a") {
				t.Errorf("%s: %s", shown, s)
			}
		}
	}
}

// Frames: what may stand around an expression, which is put in for _ in parentheses of its own.
var (
	around = []string{
		"_||a", "a||_", "_&&a", "a&&_", "_|a", "a|_", "_^a", "a^_", "_&a", "a&_", "_==a", "a!==_", "_<a", "a>=_", "_ in a", "a in _", "a instanceof _", "_<<a", "a>>>_", "_+a", "a+_", "_-a", "a-_",
		"_*a", "a/_", "_**a", "a**_", "-_", "+_", "!_", "typeof _", "++_.a", "--_[a]", "_.a++", "_[a]--", "_.a", "_.a.b", "_[a]", "a[_]", "_()", "_(a)", "a(_)", "a(..._)", "new _", "new _(a)", "new _.a", "new _[a](b)",
		"new a(_)", "_?a:b", "a?_:b", "a?b:_", "a=_", "_.a=b", "a[_]=b", "_,a", "a,_", "a,_,b", "[_]", "[..._]", "({a:_})", "({[_]:a})", "({[_](){}})", "({get[_](){}})", "a=>_", "(a,b)=>_", "a=>{_}", "()=>{return _}",
		"function(){_}", "`${_}`", "`a${b}c${_}d`",
	}
	leaves   = []string{"a", "1", ".5", "\"a\"", "{}", "{a}", "function(){}", "function a(){}", "[]", "`a`", "a=>b", "()=>{}", "new a", "new a(b)", "a()", "a.b", "-a", "++a", "a++", "a**b", "a in b", "a,b", "a=b", "a?b:c"}
	contexts = []string{
		"_", "_;a", "a;_", "{_}", "let a=_", "let a=_,b", "if(_)a", "if(a)_;else b", "while(_);", "do _;while(a)", "do;while(_)", "for(_;;);", "for(let a=_;;);", "for(const a=1,b=_;;);", "for(;_;);", "for(;;_);", "for(a in _);",
		"for(let a in _);", "for(a of _);", "for(const a of _);", "return _", "throw _", "switch(_){}", "switch(a){case _:b}", "a:_", "for(let a=b=>_;;);", "for(a?_:b;;);", "for(a?b:_;;);",
	}
)

// in puts an expression into a frame.
func in(frame, e string) string { return strings.Replace(frame, "_", "("+e+")", 1) }

// P7.1: each leaf in each frame everywhere, and each frame in each frame where not all may stand.
func TestSourceOfAll(t *testing.T) {
	for _, a := range around {
		for _, e := range leaves {
			for _, c := range contexts {
				holdSource(t, treeOf(t, in(c, in(a, e))))
			}
		}
		for _, b := range around {
			for _, c := range []string{"for(_;;);", "for(let a=_;;);", "for(a of _);", "for(let a=b=>_;;);", "for(a?b:_;;);"} {
				holdSource(t, treeOf(t, in(c, in(a, in(b, "c")))))
			}
			for _, e := range []string{"{}", "function(){}"} {
				holdSource(t, treeOf(t, in("_", in(a, in(b, e)))))
				holdSource(t, treeOf(t, in("a=>_", in(a, in(b, e)))))
			}
		}
	}
}

// P7.1: each statement behind, and within, each.
func TestSourceOfStatements(t *testing.T) {
	some := []string{"a;", ";", "{}", "{a;}", "let a=1;", "let a;", "const a=b;", "function a(){}", "if(a)_", "if(a)_ else b;", "if(a){}else _", "while(a)_", "do _ while(a);", "do{}while(a);", "for(;;)_",
		"for(a in b)_", "for(let a of b)_", "break;", "break a;", "continue;", "return;", "return a;", "throw a;", "try{_}catch(a){}", "try{}finally{_}", "switch(a){case b:_ default:_}", "a:_",
		"({});", "(function(){});", "[a];", "(a,b);", "a=>{};", "-a;", "++a;", "`a`;", "\"a\";", "1;"}
	fill := func(frame, s string) string { return strings.ReplaceAll(frame, "_", s) }
	made := 0
	for _, a := range some {
		for _, b := range some {
			for _, c := range some {
				src := fill(a, fill(b, ";")) + fill(c, ";") + fill(a, ";")
				if l, ok := parsed(src); ok {
					holdSource(t, l)
					made++
				}
			}
		}
	}
	if made < 30000 {
		t.Error(made)
	}
}

// P7.1: trees as they come.
func TestSourceOfSome(t *testing.T) {
	r := rand.New(rand.NewSource(71))
	for range 15000 {
		l := someTree(r, r.Intn(6))
		if at, e := tree.Check(l); e != api.OK {
			t.Fatal(at, e)
		}
		holdSource(t, l)
	}
}

// nest is how many brackets are open at once.
func nest(t *testing.T, s string) int {
	tokens, _, e := lex.Scan(s)
	if e != api.OK {
		t.Fatal(e, s)
	}
	now, most := 0, 0
	for _, k := range tokens {
		switch {
		case k.Kind == api.TokHead || k.Kind == api.TokSign && strings.Contains("([{", k.Text):
			now++
		case k.Kind == api.TokTail || k.Kind == api.TokSign && strings.Contains(")]}", k.Text):
			now--
		}
		most = max(most, now)
	}
	return most
}

// nested is a source of a tree that is as deep as it may be with these frames in turn about one another.
func nested(most int, frames ...string) (string, int) {
	src, deep := "a", 0
	for more := src; ; {
		l, ok := parsed("a=(" + more + ")")
		if !ok || tree.Deep(l) > most {
			return "a=(" + src + ")", deep
		}
		src, deep = more, tree.Deep(l)
		for _, f := range frames {
			more = in(f, more)
		}
	}
}

// P7.1: trees that are 60 deep, with brackets that parse has room for.
func TestSourceDeep(t *testing.T) {
	for _, a := range around {
		for _, b := range []string{"a[_]", "new _", "_,a", "a(_)", "({[_]:a})", "a=>{_}", "`${_}`"} {
			src, deep := nested(60, a, b)
			s := holdSource(t, treeOf(t, src))
			if deep < 50 || nest(t, s) > api.MaxNest {
				t.Errorf("%s, %s: %d deep, %d brackets", a, b, deep, nest(t, s))
			}
		}
	}
}

// P7.1, P1: of trees that no source makes, or deeper ones, some text.
func TestSourceOfOthers(t *testing.T) {
	short := []api.Node{{Kind: api.NodeThis}, {Kind: api.NodeThis}, {Kind: api.NodeEmpty}, {Kind: api.NodeIf, Kids: []int{1, 2}},
		{Kind: api.NodeEmpty}, {Kind: api.NodeIf, Kids: []int{0, 3, 4}}, {Kind: api.NodeScript, Kids: []int{5}}}
	named := treeOf(t, "({get a(){},set a(b){}})")
	for i, n := range named {
		if n.Kind == api.NodeFunc {
			named[i].Text = "f"
		}
	}
	for _, l := range [][]api.Node{short, named} {
		if at, e := tree.Check(l); e != api.OK {
			t.Fatal(at, e)
		}
		if _, e := show.Source(l); e != api.OK {
			t.Error(e)
		}
	}
	for _, a := range around {
		src, deep := nested(api.MaxDeep, a, a, a, a, a, a, a, a)
		if s, e := show.Source(treeOf(t, src)); deep < 160 || s == "" || e != api.OK {
			t.Errorf("%s: %d deep, error %d", a, deep, e)
		}
	}
}

// one is the tree of a script of one expression without kids.
func one(n api.Node) []api.Node {
	return []api.Node{n, {Kind: api.NodeExpr, Kids: []int{0}}, {Kind: api.NodeScript, Kids: []int{1}}}
}

// P7.1: MaxSource, at trees of which no source is shorter.
func TestSourceLong(t *testing.T) {
	letters := strings.Repeat("a", api.MaxSource)
	points := strings.Repeat("\u20ac", api.MaxSource/3)
	for _, c := range []struct {
		name string
		l    []api.Node
		size int // 0: too long
	}{
		{"a name", one(api.Node{Kind: api.NodeName, Text: letters}), api.MaxSource},
		{"a longer name", one(api.Node{Kind: api.NodeName, Text: letters + "a"}), 0},
		{"a text", one(api.Node{Kind: api.NodeStr, Str: of(letters[2:])}), api.MaxSource},
		{"a longer text", one(api.Node{Kind: api.NodeStr, Str: of(letters[1:])}), 0},
		{"a far longer text", one(api.Node{Kind: api.NodeStr, Str: of(letters + letters)}), 0},
		{"a text of other code points", one(api.Node{Kind: api.NodeStr, Str: of(points[3:])}), len(points) - 1},
		{"a text of quotes", one(api.Node{Kind: api.NodeStr, Str: of(strings.ReplaceAll(letters[2:], "a", `"`))}), api.MaxSource},
		{"a text of ends of lines", one(api.Node{Kind: api.NodeStr, Str: of(strings.ReplaceAll(letters[2:], "aa", "\n"))}), api.MaxSource},
		{"a longer text of ends of lines", one(api.Node{Kind: api.NodeStr, Str: of(strings.ReplaceAll(letters, "aa", "\r"))}), 0},
		{"a text of lone surrogates", one(api.Node{Kind: api.NodeStr, Str: api.Str(strings.Repeat("\xd8\x00", (api.MaxSource-2)/6))}), (api.MaxSource-2)/6*6 + 2},
		{"a longer text of lone surrogates", one(api.Node{Kind: api.NodeStr, Str: api.Str(strings.Repeat("\xd8\x00", api.MaxSource/6+1))}), 0},
	} {
		s, e := show.Source(c.l)
		if len(s) != c.size || (e == api.OK) != (c.size > 0) || e != api.OK && e != api.ErrLong {
			t.Errorf("%s: %d bytes, error %d", c.name, len(s), e)
		}
		if e == api.OK {
			holdSource(t, c.l)
		}
	}
	template := func(s string) []api.Node {
		return []api.Node{{Kind: api.NodeStr, Str: of(s)}, {Kind: api.NodeTemplate, Kids: []int{0}}, {Kind: api.NodeExpr, Kids: []int{1}}, {Kind: api.NodeScript, Kids: []int{2}}}
	}
	key := func(s string) []api.Node {
		l := treeOf(t, "({k:1})")
		l[0].Str = of(s)
		return l
	}
	holdSource(t, template(letters[2:]))
	holdSource(t, template(strings.ReplaceAll(letters[2:], "a", "\n")))
	holdSource(t, key(letters[len("({:1})"):]))
	for _, l := range [][]api.Node{template(letters[1:]), template(letters + letters), key(letters[len("({:1})")-1:]), key(letters + letters)} {
		if s, e := show.Source(l); s != "" || e != api.ErrLong {
			t.Errorf("%d bytes, error %d", len(s), e)
		}
	}
	for _, src := range []string{
		"[" + strings.Repeat("a,", api.MaxNodes-4) + "a]", strings.Repeat("a;", api.MaxNodes/2-1), strings.Repeat(";", api.MaxNodes-1), "[" + strings.Repeat(".5,", api.MaxSource/3-4) + ".5]",
		"[" + strings.Repeat("1e9,", api.MaxSource/4-4) + "1e9]", strings.Repeat("do;while(a)", api.MaxSource/11), "({" + strings.Repeat("a,", api.MaxNodes/3-4) + "a})", strings.Repeat("(()=>{})();", api.MaxNodes/5-1),
	} {
		l := treeOf(t, src)
		if s := holdSource(t, l); len(s) > len(src) {
			t.Errorf("%.20s: %d bytes", src, len(s))
		}
	}
	many := treeOf(t, "["+strings.Repeat("aaa,", 60000)+"a]")
	if s, e := show.Source(many); e != api.OK || len(s) > 240003 {
		t.Error(len(s), e)
	}
	for i := range many {
		if many[i].Text == "aaa" {
			many[i].Text = "aaaa"
		}
	}
	if s, e := show.Source(many); s != "" || e != api.ErrLong {
		t.Error(len(s), e)
	}
}

// P7.1, P4: what is no tree.
func TestSourceOfNoTree(t *testing.T) {
	for _, c := range wrong() {
		if s, e := show.Source(c.l); s != "" || e != c.e {
			t.Errorf("%s: %q, %d", c.name, s, e)
		}
	}
}

type wrongCase struct {
	name string
	l    []api.Node
	e    api.Errno
}

// wrong are nodes that tree.Check refuses.
func wrong() []wrongCase {
	deep := []api.Node{{Kind: api.NodeThis}}
	for i := range api.MaxDeep - 2 {
		deep = append(deep, api.Node{Kind: api.NodeUnary, Text: "!", Kids: []int{i}})
	}
	deep = append(deep, api.Node{Kind: api.NodeExpr, Kids: []int{len(deep) - 1}}, api.Node{Kind: api.NodeScript, Kids: []int{len(deep)}})
	return []wrongCase{
		{"nil", nil, api.ErrTree},
		{"no nodes", []api.Node{}, api.ErrTree},
		{"no script", []api.Node{{Kind: api.NodeEmpty}}, api.ErrTree},
		{"a kid that there isn't", []api.Node{{Kind: api.NodeScript, Kids: []int{7}}}, api.ErrTree},
		{"its own kid", []api.Node{{Kind: api.NodeScript, Kids: []int{0}}}, api.ErrTree},
		{"a kid below 0", []api.Node{{Kind: api.NodeScript, Kids: []int{-1}}}, api.ErrTree},
		{"a kind that there isn't", []api.Node{{Kind: 99}, {Kind: api.NodeScript}}, api.ErrTree},
		{"a kind below 0", []api.Node{{Kind: -1}, {Kind: api.NodeScript}}, api.ErrTree},
		{"no name", one(api.Node{Kind: api.NodeName, Text: "\xff"}), api.ErrTree},
		{"NaN", one(api.Node{Kind: api.NodeNum, Num: math.NaN()}), api.ErrTree},
		{"too many nodes", make([]api.Node, api.MaxNodes+1), api.ErrLong},
		{"too deep", deep, api.ErrDeep},
	}
}

// P2: what is given is not changed; an odd byte does not count.
func TestSourceKeeps(t *testing.T) {
	l := one(api.Node{Kind: api.NodeStr, Str: "\x00ab"})
	first, e := show.Source(l)
	if m, ok := parsed(first); e != api.OK || !ok || units.Compare(m[0].Str, "\x00a") != 0 {
		t.Error(first, e)
	}
	l = treeOf(t, "let a=[b,...c];for(a of b)({get c(){}})")
	before := drawn(l)
	show.Source(l)
	if drawn(l) != before {
		t.Error("changed")
	}
}
