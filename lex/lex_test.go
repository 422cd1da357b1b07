package lex_test

import (
	"math"
	"regexp"
	"slices"
	"strings"
	"testing"
	"unsafe"

	"lintel/api"
	"lintel/lex"
	"lintel/units"
)

// of makes a text of UTF-8 that is known to be good.
func of(t *testing.T, s string) api.Str {
	t.Helper()
	u, at, e := units.Of(s)
	if at != 0 || e != api.OK {
		t.Fatalf("Of(%q): place %d, error %d", s, at, e)
	}
	return u
}

// scan is Scan of a source that is known to be good.
func scan(t *testing.T, s string) []api.Token {
	t.Helper()
	l, at, e := lex.Scan(s)
	if at != 0 || e != api.OK {
		t.Fatalf("Scan(%q): place %d, error %d", s, at, e)
	}
	return l
}

// hold asks for just these tokens of a source; the one at its end is put behind them, on the same line.
func hold(t *testing.T, s string, want ...api.Token) {
	t.Helper()
	want = append(want, api.Token{Kind: api.TokEnd, From: len(s), To: len(s)})
	if got := scan(t, s); !slices.Equal(got, want) {
		t.Errorf("Scan(%q):\n%v, not\n%v", s, got, want)
	}
}

// holdWrong asks for ErrToken at a place, and nothing beside it.
func holdWrong(t *testing.T, s string, at int) {
	t.Helper()
	if l, got, e := lex.Scan(s); len(l) != 0 || got != at || e != api.ErrToken {
		t.Errorf("Scan(%q): %v, %d, %d, not %d", s, l, got, e, at)
	}
}

// texts are the tokens' bytes, one behind the other with a blank between.
func texts(s string, l []api.Token) string {
	var out []string
	for _, k := range l {
		out = append(out, s[k.From:k.To])
	}
	return strings.Join(out, " ")
}

// within tells whether a text's first byte lies in the memory of another.
func within(a, b string) bool {
	if len(a) == 0 || len(b) == 0 {
		return false
	}
	at := uintptr(unsafe.Pointer(unsafe.StringData(a)))
	from := uintptr(unsafe.Pointer(unsafe.StringData(b)))
	return from <= at && at < from+uintptr(len(b))
}

const reserved = `break case catch class const continue debugger default delete do else enum export extends false
finally for function if import in instanceof new null return super switch this throw true try typeof var void while with
implements interface let package private protected public static yield`

const signs = "{ } ( ) [ ] . ... ; , < > <= >= == != === !== + - * / % ** ++ -- << >> >>> & | ^ ! ~ && || ? : = " +
	"+= -= *= /= %= **= <<= >>= >>>= &= |= ^= =>"

// P5.1: the document's examples.
func TestExamples(t *testing.T) {
	hold(t, "a\n+=1.5",
		api.Token{Kind: api.TokName, Text: "a", From: 0, To: 1},
		api.Token{Kind: api.TokSign, Text: "+=", From: 2, To: 4, Line: true},
		api.Token{Kind: api.TokNum, Num: 1.5, From: 4, To: 7})
	hold(t, "`x${ {} }y`",
		api.Token{Kind: api.TokHead, Str: of(t, "x"), From: 0, To: 4},
		api.Token{Kind: api.TokSign, Text: "{", From: 5, To: 6},
		api.Token{Kind: api.TokSign, Text: "}", From: 6, To: 7},
		api.Token{Kind: api.TokTail, Str: of(t, "y"), From: 8, To: 11})
	hold(t, `'\u{1F600}'`, api.Token{Kind: api.TokStr, Str: "\xD8\x3D\xDE\x00", From: 0, To: 11})
	holdWrong(t, "08", 0)
	holdWrong(t, "#", 0)
}

// P5.1: a source of nothing, and the place of the token at the end.
func TestEnd(t *testing.T) {
	hold(t, "")
	hold(t, " \t\v\f\u00a0\ufeff")
	hold(t, "/**/")
	hold(t, "//")
	hold(t, "// no end of a line is asked for")
	for _, s := range []string{"\n", "\r", "\r\n", "\u2028", "\u2029", " \n ", "//\n", "/*\n*/", "\n//"} {
		want := []api.Token{{Kind: api.TokEnd, From: len(s), To: len(s), Line: true}}
		if got := scan(t, s); !slices.Equal(got, want) {
			t.Errorf("Scan(%q): %v", s, got)
		}
	}
}

// P5.1: lengths and bytes that no source has come ahead of tokens that are none.
func TestScanErrors(t *testing.T) {
	for _, c := range []struct {
		s    string
		at   int
		want api.Errno
	}{
		{strings.Repeat(" ", api.MaxSource+1), 0, api.ErrLong},
		{strings.Repeat("#", api.MaxSource+1), 0, api.ErrLong},
		{strings.Repeat("\xff", api.MaxSource+1), 0, api.ErrLong},
		{strings.Repeat(" ", api.MaxSource) + "\xff", 0, api.ErrLong},
		{"\xff", 0, api.ErrUTF},
		{"a\xff", 1, api.ErrUTF},
		{"#\xff", 1, api.ErrUTF},
		{"'\xed\xa0\x80'", 1, api.ErrUTF},
		{"/*\xc0\x80*/", 2, api.ErrUTF},
		{"\ufffd\xe2\x82", 3, api.ErrUTF},
		{strings.Repeat(" ", api.MaxSource-1) + "\xff", api.MaxSource - 1, api.ErrUTF},
		{strings.Repeat(" ", api.MaxSource-1) + "#", api.MaxSource - 1, api.ErrToken},
	} {
		if l, at, e := lex.Scan(c.s); len(l) != 0 || at != c.at || e != c.want {
			t.Errorf("Scan(%.20q): %d tokens, %d, %d", c.s, len(l), at, e)
		}
		for k := range lex.Each(c.s) {
			t.Errorf("Each(%.20q): %v", c.s, k)
		}
	}
}

// P5.1: sources of as many bytes as there may be, of one token and of many.
func TestLongest(t *testing.T) {
	const n = api.MaxSource
	for _, c := range []struct {
		s    string
		many int
	}{
		{strings.Repeat(" ", n), 1},
		{strings.Repeat("\n", n), 1},
		{strings.Repeat("/**/", n/4), 1},
		{"//" + strings.Repeat("/", n-2), 1},
		{strings.Repeat("a", n), 2},
		{strings.Repeat(";", n), n + 1},
		{strings.Repeat("}", n), n + 1},
		{strings.Repeat("9", n), 2},
		{"'" + strings.Repeat("a", n-2) + "'", 2},
		{"`" + strings.Repeat("$", n-2) + "`", 2},
		{strings.Repeat("'\\\n'", n/4), n/4 + 1},
		{"'" + strings.Repeat("\\\\", n/2-1) + "'", 2},
		{"'\\u{" + strings.Repeat("0", n-8) + "41}'", 2},
		{strings.Repeat("`${", n/3), n/3 + 1},
		{"`${" + strings.Repeat("}${", n/3-1) + "a", n/3 + 2},
		{strings.Repeat("`${", n/5) + strings.Repeat("}`", n/5), n/5*2 + 1},
	} {
		if got := scan(t, c.s); len(got) != c.many {
			t.Errorf("Scan(%.12q ..): %d tokens, not %d", c.s, len(got), c.many)
		}
	}
	for _, s := range []string{"/*", "'", "\"", "`", "'\\u{", "0x"} {
		holdWrong(t, s+strings.Repeat("_", n-len(s)), 0)
	}
	if l := scan(t, "'"+strings.Repeat("a", n-2)+"'"); units.Len(l[0].Str) != n-2 {
		t.Errorf("a text asks for no limit: %d", units.Len(l[0].Str))
	}
}

// P5.1, P5.3: names and words.
func TestNames(t *testing.T) {
	for _, s := range []string{
		"a", "z", "A", "Z", "$", "_", "a1", "$0", "_9", "a0$_Zz", "of", "get", "set", "eval", "arguments", "undefined",
		"async", "await", "NaN", "let1", "lets", "Let", "le", "In", "i", "instance", "breakk", "TRUE", "_this", "$if",
	} {
		hold(t, s, api.Token{Kind: api.TokName, Text: s, From: 0, To: len(s)})
		if !lex.Name(s) || lex.Word(s) {
			t.Errorf("%q is a name", s)
		}
	}
	words := strings.Fields(reserved)
	if len(words) != 45 {
		t.Fatal(len(words))
	}
	for _, s := range words {
		hold(t, s, api.Token{Kind: api.TokWord, Text: s, From: 0, To: len(s)})
		if lex.Name(s) || !lex.Word(s) {
			t.Errorf("%q is a word", s)
		}
	}
	for _, s := range []string{
		"", " ", "1", "1a", "a ", " a", "a b", "a-b", "a\n", "\u00e9", "a\u00e9", "a\xff", "\xff", "a\x00", "let ", " let",
		"a.b", "#a", "\\u0061", "@", "`", "[", "{", "/", ":",
	} {
		if lex.Name(s) || lex.Word(s) {
			t.Errorf("%q is neither", s)
		}
	}
}

var nameForm = regexp.MustCompile(`^[a-zA-Z$_][a-zA-Z0-9$_]*$`)

// P5.3: all short texts of the bytes at which something changes, and what nearly is a word.
func TestNamesOfAll(t *testing.T) {
	words := strings.Fields(reserved)
	try := func(s string) {
		word := slices.Contains(words, s)
		if got := lex.Word(s); got != word {
			t.Fatalf("Word(%q): %v", s, got)
		}
		if got := lex.Name(s); got != (nameForm.MatchString(s) && !word) {
			t.Fatalf("Name(%q): %v", s, got)
		}
	}
	for a := range 256 {
		try(string([]byte{byte(a)}))
		for b := range 256 {
			try(string([]byte{byte(a), byte(b)}))
			try(string([]byte{'x', byte(a), byte(b)}))
		}
	}
	for _, w := range words {
		for i := range len(w) + 1 {
			try(w[:i])
			try(w[i:])
			for _, c := range []string{"a", "E", "1", "$", " ", "\u017f"} {
				try(w[:i] + c + w[i:])
			}
		}
		try(strings.ToUpper(w))
	}
}

// P5.1: each sign, alone and right ahead of a name.
func TestSigns(t *testing.T) {
	all := strings.Fields(signs)
	if len(all) != 52 {
		t.Fatal(len(all))
	}
	for _, s := range all {
		hold(t, s, api.Token{Kind: api.TokSign, Text: s, From: 0, To: len(s)})
		hold(t, s+"a", api.Token{Kind: api.TokSign, Text: s, From: 0, To: len(s)},
			api.Token{Kind: api.TokName, Text: "a", From: len(s), To: len(s) + 1})
	}
	for _, c := range [][2]string{
		{"a+++b", "a ++ + b"},
		{"a---->b", "a -- -- > b"},
		{">>>>=", ">>> >="},
		{"====", "=== ="},
		{"!===", "!== ="},
		{"<<<", "<< <"},
		{"<=>", "<= >"},
		{"***=", "** *="},
		{"&&=", "&& ="},
		{"||=", "|| ="},
		{"??", "? ?"},
		{"?.a", "? . a"},
		{"..", ". ."},
		{"....", "... ."},
		{"...5", "... 5"},
		{"..5", ". .5"},
		{"<!--", "< ! --"},
		{"*/", "* /"},
		{"/=/", "/= /"},
		{"a/b/c", "a / b / c"},
		{"}{", "} {"},
	} {
		if got := strings.TrimSuffix(texts(c[0], scan(t, c[0])), " "); got != c[1] {
			t.Errorf("Scan(%q): %s", c[0], got)
		}
	}
}

// P5.1: each code point alone is what the document says.
func TestPoints(t *testing.T) {
	for c := range rune(0x110000) {
		if c >= 0xD800 && c < 0xE000 {
			continue
		}
		s := string(c)
		l, at, e := lex.Scan(s)
		end := api.Token{Kind: api.TokEnd, From: len(s), To: len(s)}
		var want []api.Token
		switch {
		case strings.ContainsRune("\t\v\f \u00a0\ufeff", c):
			want = []api.Token{end}
		case strings.ContainsRune("\n\r\u2028\u2029", c):
			end.Line = true
			want = []api.Token{end}
		case nameForm.MatchString(s):
			want = []api.Token{{Kind: api.TokName, Text: s, To: 1}, end}
		case '0' <= c && c <= '9':
			want = []api.Token{{Kind: api.TokNum, Num: float64(c - '0'), To: 1}, end}
		case strings.Contains(" "+signs+" ", " "+s+" "):
			want = []api.Token{{Kind: api.TokSign, Text: s, To: 1}, end}
		}
		if !slices.Equal(l, want) || at != 0 || (e == api.OK) != (want != nil) || e != api.OK && e != api.ErrToken {
			t.Fatalf("Scan(%q): %v, %d, %d", s, l, at, e)
		}
	}
}

// P5.1: what stands between tokens, and which of it ends a line.
func TestBetween(t *testing.T) {
	for _, c := range []struct {
		gap  string
		line bool
	}{
		{" ", false}, {"\t", false}, {"\v", false}, {"\f", false}, {"\u00a0", false}, {"\ufeff", false}, {" \t  ", false},
		{"\n", true}, {"\r", true}, {"\r\n", true}, {"\u2028", true}, {"\u2029", true}, {" \n", true}, {"\n ", true},
		{"/**/", false}, {"/* */", false}, {"/***/", false}, {"/*/*/", false}, {"/*//*/", false}, {"/* ' ` \" \\ */", false},
		{"/*\n*/", true}, {"/*\r*/", true}, {"/*\u2028*/", true}, {"/*\u2029*/", true}, {"/*\n*//**/", true}, {"/**//*\n*/", true},
		{"//\n", true}, {"//\r", true}, {"//\r\n", true}, {"//\u2028", true}, {"//\u2029", true}, {"// a /* b\n", true},
		{"//\n//\n", true}, {"//*/\n", true}, {"/*//\n*/", true}, {" /* a */ /* b */ ", false}, {"/* \u00e9 \U0001F600 */", false},
		{"// \u00e9 \U0001F600 ' ` \" \\\n", true},
	} {
		from := 1 + len(c.gap)
		hold(t, "a"+c.gap+"b", api.Token{Kind: api.TokName, Text: "a", To: 1},
			api.Token{Kind: api.TokName, Text: "b", From: from, To: from + 1, Line: c.line})
		hold(t, c.gap+";", api.Token{Kind: api.TokSign, Text: ";", From: from - 1, To: from, Line: c.line})
		end := api.Token{Kind: api.TokEnd, From: from, To: from, Line: c.line}
		if l := scan(t, ";"+c.gap); len(l) != 2 || l[1] != end {
			t.Errorf("Scan(%q): %v", ";"+c.gap, l)
		}
	}
	// A line that ended ahead of a token is none ahead of the next.
	hold(t, "\na b", api.Token{Kind: api.TokName, Text: "a", From: 1, To: 2, Line: true},
		api.Token{Kind: api.TokName, Text: "b", From: 3, To: 4})
	// Nor is one that ends within a token.
	hold(t, "`\n`a'\\\n'b", api.Token{Kind: api.TokTemplate, Str: "\x00\n", To: 3},
		api.Token{Kind: api.TokName, Text: "a", From: 3, To: 4},
		api.Token{Kind: api.TokStr, From: 4, To: 8},
		api.Token{Kind: api.TokName, Text: "b", From: 8, To: 9})
	// A comment goes on up to the first */ alone.
	if got := texts("/* /* */ */", scan(t, "/* /* */ */")); got != "* / " {
		t.Errorf("within a comment: %s", got)
	}
	for _, c := range []struct {
		s  string
		at int
	}{{"/*", 0}, {"/*/", 0}, {"/* *", 0}, {"a /*\n", 2}, {"/**//*", 4}, {"a//\n/* //", 4}, {"/*\n*/ /* a", 6}, {"`${ /* }`", 4}} {
		holdWrong(t, c.s, c.at)
	}
}

// P5.1: what begins no token.
func TestNone(t *testing.T) {
	for _, c := range []struct {
		s  string
		at int
	}{
		{"@", 0}, {"#", 0}, {"\\", 0}, {"\x00", 0}, {"\x7f", 0}, {"\b", 0}, {"\x1b", 0}, {"\u00e9", 0}, {"\u2003", 0}, {"\u3000", 0},
		{"\u0085", 0}, {"\u200b", 0}, {"\ufffd", 0}, {"\U0001F600", 0}, {"a#", 1}, {"a \u00e9", 2}, {"a\u00e9", 1}, {"\u00a0\u1680", 2},
		{"#!/bin/lintel", 0}, {"a\\u0061", 1}, {"\\u0061", 0}, {"a = b # c", 6}, {"{\n@}", 2}, {"'a' \"", 4}, {"`a` `", 4}, {"+=\u2003", 2},
		{"#'", 0}, {"'\\1' #", 0}, {"\u20ac", 0}, {"'\u20ac'\u20ac", 5},
	} {
		holdWrong(t, c.s, c.at)
	}
}

// P5.1: numbers are what layer 3 says.
func TestNumbers(t *testing.T) {
	for _, c := range []struct {
		s    string
		want float64
	}{
		{"0", 0}, {"7", 7}, {"12", 12}, {"1.5", 1.5}, {"1.", 1}, {".5", 0.5}, {"0.25", 0.25}, {"1e3", 1000}, {"1E+3", 1000}, {"1.e-1", 0.1},
		{"0x1F", 31}, {"0XfF", 255}, {"0o17", 15}, {"0B101", 5}, {"1e400", math.Inf(1)}, {"5e-324", 5e-324}, {"0.1", 0.1},
		{"9007199254740993", 9007199254740992},
	} {
		hold(t, c.s, api.Token{Kind: api.TokNum, Num: c.want, To: len(c.s)})
		hold(t, c.s+";", api.Token{Kind: api.TokNum, Num: c.want, To: len(c.s)},
			api.Token{Kind: api.TokSign, Text: ";", From: len(c.s), To: len(c.s) + 1})
	}
	for _, c := range [][2]string{
		{"1..a", "1. . a"}, {"1.5.5", "1.5 .5"}, {"a.5", "a .5"}, {"1+.5", "1 + .5"}, {"-1", "- 1"}, {"1-1", "1 - 1"}, {"1'a'", "1 'a'"},
		{"1e1.5", "1e1 .5"}, {"0.0.0", "0.0 .0"}, {"1/**/a", "1 a"}, {"1 a", "1 a"}, {"1\na", "1 a"}, {"1`a`", "1 `a`"},
	} {
		if got := strings.TrimSuffix(texts(c[0], scan(t, c[0])), " "); got != c[1] {
			t.Errorf("Scan(%q): %s", c[0], got)
		}
	}
	for _, c := range []struct {
		s  string
		at int
	}{
		{"00", 0}, {"01", 0}, {"08.5", 0}, {"1a", 0}, {"1_000", 0}, {"1$", 0}, {"0x", 0}, {"0xg", 0}, {"0b2", 0}, {"0o8", 0}, {"0b12", 0},
		{"1e", 0}, {"1e+", 0}, {"1.a", 0}, {".5a", 0}, {"1n", 0}, {"3in", 0}, {"1\u00e9", 0}, {"a + 1b", 4}, {";\n09", 2},
		// Layer 3 takes no byte from 128 on right behind a literal, not even those of blanks and ends of lines.
		{"1\u00a0", 0}, {"1\ufeff", 0}, {"1\u2028", 0}, {"1\u2029", 0},
	} {
		holdWrong(t, c.s, c.at)
	}
}

// P5.1, P2: tokens share no memory with the source and with one another.
func TestScanShares(t *testing.T) {
	s := strings.Clone("abc let >>>= 'abc' `abc${abc}abc` abc let >>>= 'abc'")
	l := scan(t, s)
	for i, a := range l {
		for _, text := range []string{a.Text, string(a.Str)} {
			if within(text, s) {
				t.Errorf("%v shares the source's memory", a)
			}
			for j, b := range l {
				if i != j && (within(text, b.Text) || within(text, string(b.Str))) {
					t.Errorf("%v shares memory with %v", a, b)
				}
			}
		}
	}
	again := scan(t, s)
	if !slices.Equal(l, again) {
		t.Fatal("Scan answers otherwise the second time")
	}
	l[0].Text = "x"
	if again[0].Text != "abc" {
		t.Error("two answers share a list")
	}
}

// P5.2
func TestEach(t *testing.T) {
	for _, c := range []struct{ s, want string }{
		{"", ""}, {"a b", "a b "}, {"a b #", "a b"}, {"#", ""}, {"a 'b", "a"}, {"a /* b", "a"}, {"`a${b}c", "`a${ b"}, {"a 08 b", "a"},
		{"a '\\1' b", "a"}, {"let a = 1;", "let a = 1 ; "}, {"`a", ""}, {"a\n", "a "}, {"`a${b", "`a${ b "},
	} {
		each := lex.Each(c.s)
		for range 2 {
			l := slices.Collect(each)
			if got := texts(c.s, l); got != c.want {
				t.Errorf("Each(%q): %q", c.s, got)
			}
			if all, _, e := lex.Scan(c.s); e == api.OK && !slices.Equal(l, all) {
				t.Errorf("Each(%q): %v, not as Scan %v", c.s, l, all)
			}
		}
	}
}

// P5.2: it may be left at each token, gone over again, and gone over within itself.
func TestEachLeft(t *testing.T) {
	const s = "`a${ {b:1} }c` + `d${e}`\n#"
	all := slices.Collect(lex.Each(s))
	if len(all) != 11 {
		t.Fatal(all)
	}
	each := lex.Each(s)
	for n := range len(all) {
		var got []api.Token
		for k := range each {
			got = append(got, k)
			if len(got) > n {
				break
			}
		}
		if !slices.Equal(got, all[:n+1]) {
			t.Errorf("left at %d: %v", n, got)
		}
	}
	for k := range each {
		if inner := slices.Collect(each); !slices.Equal(inner, all) {
			t.Fatalf("within %v: %v", k, inner)
		}
	}
}

// P5.2: what a loop over the tokens throws is not taken for a token that is none.
func TestEachThrown(t *testing.T) {
	for _, thrown := range []any{"a thing", api.ErrToken} {
		got := func() (caught any) {
			defer func() { caught = recover() }()
			for range lex.Each("a b") {
				panic(thrown)
			}
			return nil
		}()
		if got != thrown {
			t.Errorf("%v was thrown, %v caught", thrown, got)
		}
	}
}
