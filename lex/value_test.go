package lex_test

import (
	"math/rand"
	"strconv"
	"strings"
	"testing"

	"lintel/api"
	"lintel/lex"
	"lintel/units"
)

// holdText asks for a text of these bytes and units, in both signs' texts and in a template.
func holdText(t *testing.T, body string, want ...uint16) {
	t.Helper()
	value := units.Make(want)
	size := len(body) + 2
	hold(t, "'"+body+"'", api.Token{Kind: api.TokStr, Str: value, To: size})
	hold(t, `"`+body+`"`, api.Token{Kind: api.TokStr, Str: value, To: size})
	hold(t, "`"+body+"`", api.Token{Kind: api.TokTemplate, Str: value, To: size})
	hold(t, "`"+body+"${0}"+body+"${0}"+body+"`",
		api.Token{Kind: api.TokHead, Str: value, To: size + 1},
		api.Token{Kind: api.TokNum, From: size + 1, To: size + 2},
		api.Token{Kind: api.TokMiddle, Str: value, From: size + 2, To: 2*size + 3},
		api.Token{Kind: api.TokNum, From: 2*size + 3, To: 2*size + 4},
		api.Token{Kind: api.TokTail, Str: value, From: 2*size + 4, To: 3*size + 4})
}

// holdNoText asks for ErrToken at the first byte of a text and of each of a template's pieces.
func holdNoText(t *testing.T, body string) {
	t.Helper()
	holdWrong(t, "'"+body+"'", 0)
	holdWrong(t, `a "`+body+`"`, 2)
	holdWrong(t, "`"+body+"`", 0)
	holdWrong(t, "\n`"+body+"${0}`", 1)
	holdWrong(t, "`${0}"+body+"`", 4)
	holdWrong(t, "`a${0 }"+body+"${0}`", 6)
	holdWrong(t, "`a${0}b${0}"+body+"`", 10)
}

// P5.1: texts and templates of ordinary code points and of escapes.
func TestTexts(t *testing.T) {
	holdText(t, "")
	holdText(t, "a", 'a')
	holdText(t, "a b", 'a', ' ', 'b')
	holdText(t, "\u00e9\u20ac\ufffd", 0xE9, 0x20AC, 0xFFFD)
	holdText(t, "\U0001F600\U00010000\U0010FFFF", 0xD83D, 0xDE00, 0xD800, 0xDC00, 0xDBFF, 0xDFFF)
	holdText(t, "\u2028\u2029\u00a0\ufeff\x00\t\v\f\x7f", 0x2028, 0x2029, 0xA0, 0xFEFF, 0, 9, 11, 12, 127)
	holdText(t, "// /* */ #@", []uint16{'/', '/', ' ', '/', '*', ' ', '*', '/', ' ', '#', '@'}...)
	holdText(t, "$ { } $} {$", '$', ' ', '{', ' ', '}', ' ', '$', '}', ' ', '{', '$')
	holdText(t, `\n\t\b\v\f\r`, 10, 9, 8, 11, 12, 13)
	holdText(t, `\'\"\\`, '\'', '"', '\\')
	holdText(t, "\\`\\$\\{$\\{\\${", '`', '$', '{', '$', '{', '$', '{')
	holdText(t, `\a\c\N\T\X\U\y\z\ \-`, 'a', 'c', 'N', 'T', 'X', 'U', 'y', 'z', ' ', '-')
	holdText(t, "\\\u00e9\\\U0001F600\\\ufffd\\\x00", 0xE9, 0xD83D, 0xDE00, 0xFFFD, 0)
}

// P5.1: escapes by numbers.
func TestNumberEscapes(t *testing.T) {
	holdText(t, `\0`, 0)
	holdText(t, `\0a\0\0`, 0, 'a', 0, 0)
	holdText(t, `\0\x31`, 0, '1')
	holdText(t, `\x00\x41\xfF\xAb1`, 0, 'A', 0xFF, 0xAB, '1')
	holdText(t, `\u0000\u20aC\uFFFF0`, 0, 0x20AC, 0xFFFF, '0')
	holdText(t, `\ud83d\ude00\uD800a\uDC00\uD800`, 0xD83D, 0xDE00, 0xD800, 'a', 0xDC00, 0xD800)
	holdText(t, `\u{0}\u{41}\u{fFfF}\u{00000000000000000000041}`, 0, 'A', 0xFFFF, 'A')
	holdText(t, `\u{10000}\u{10FFFF}\u{010ffff}\u{1F600}`, 0xD800, 0xDC00, 0xDBFF, 0xDFFF, 0xDBFF, 0xDFFF, 0xD83D, 0xDE00)
	holdText(t, `\u{D800}\u{dfff}\u{d83d}\u{de00}`, 0xD800, 0xDFFF, 0xD83D, 0xDE00)
	for _, body := range []string{
		`\00`, `\01`, `\09`, `\1`, `\2`, `\3`, `\4`, `\5`, `\6`, `\7`, `\8`, `\9`, `a\0\01`,
		`\x`, `\x1`, `\xg1`, `\x1g`, `\x 1`, `\x{41}`, `\x-1`, "\\x\u00e9",
		`\u`, `\u1`, `\u12`, `\u123`, `\u123g`, `\ug123`, `\u 123`, "\\u12\u00e9", "\\u123\u00e9", `\u+123`,
		`\u{`, `\u{}`, `\u{41`, `\u{110000}`, `\u{FFFFFF}`, `\u{g}`, `\u{4 1}`, `\u{ 41}`, `\u{-1}`, `\u{1F600 }`, `\u 41}`, "\\u{\u00e9}",
		`\u{100000000}`, `\u{10000000000000041}`, `\u{FFFFFFFFFFFFFFFFFFFFF}`, `\u{4_1}`, `\u{{41}}`,
	} {
		holdNoText(t, body)
	}
}

// P5.1: ends of lines within texts and templates.
func TestLinesWithin(t *testing.T) {
	holdText(t, "a\\\nb", 'a', 'b')
	holdText(t, "a\\\rb", 'a', 'b')
	holdText(t, "a\\\r\nb", 'a', 'b')
	holdText(t, "a\\\u2028b\\\u2029", 'a', 'b')
	holdText(t, "\\\n\\\n\\\r\n\\\r")
	holdText(t, "\\\r\\\n", []uint16{}...)
	for _, c := range []struct{ body, want string }{
		{"\n", "\n"}, {"\r", "\n"}, {"\r\n", "\n"}, {"\n\r", "\n\n"}, {"\r\r\n\n", "\n\n\n"}, {"a\r\nb\rc\nd", "a\nb\nc\nd"},
		{"\\\r\n\n", "\n"}, {"\\\n\r\n", "\n"}, {"\\\r\r\n", "\n"}, {"\\\n\n", "\n"}, {"\\r\n", "\r\n"}, {"\\r\\n", "\r\n"}, {"\r\\\n\n", "\n\n"},
		{"\u2028\r\u2029", "\u2028\n\u2029"}, {"\r\\n", "\n\n"}, {"\\\u2028\n", "\n"},
	} {
		size := len(c.body) + 2
		value := of(t, c.want)
		hold(t, "`"+c.body+"`", api.Token{Kind: api.TokTemplate, Str: value, To: size})
		hold(t, "`"+c.body+"${0}"+c.body+"`",
			api.Token{Kind: api.TokHead, Str: value, To: size + 1},
			api.Token{Kind: api.TokNum, From: size + 1, To: size + 2},
			api.Token{Kind: api.TokTail, Str: value, From: size + 2, To: 2*size + 2})
	}
	for _, body := range []string{"\n", "\r", "\r\n", "a\nb", "a\rb", "\\\n\n", "\\\r\n\n", "\\\r\n\r\n", "\\\n\r", "\\\u2028\n"} {
		holdWrong(t, "'"+body+"'", 0)
		holdWrong(t, `; "`+body+`"`, 2)
	}
}

// P5.1: texts without an end, and the sign that ends one but no other.
func TestTextEnds(t *testing.T) {
	hold(t, `'"'"'"`, api.Token{Kind: api.TokStr, Str: of(t, `"`), To: 3}, api.Token{Kind: api.TokStr, Str: of(t, "'"), From: 3, To: 6})
	hold(t, "'`'\"`\"", api.Token{Kind: api.TokStr, Str: of(t, "`"), To: 3}, api.Token{Kind: api.TokStr, Str: of(t, "`"), From: 3, To: 6})
	hold(t, "`'\"`", api.Token{Kind: api.TokTemplate, Str: of(t, `'"`), To: 4})
	hold(t, "'${a}'", api.Token{Kind: api.TokStr, Str: of(t, "${a}"), To: 6})
	hold(t, "''\"\"``", api.Token{Kind: api.TokStr, To: 2}, api.Token{Kind: api.TokStr, From: 2, To: 4}, api.Token{Kind: api.TokTemplate, From: 4, To: 6})
	for _, c := range []struct {
		s  string
		at int
	}{
		{"'", 0}, {`"`, 0}, {"`", 0}, {"'a", 0}, {`'a"`, 0}, {`"a'`, 0}, {"`a'", 0}, {`'\'`, 0}, {`'\\\'`, 0}, {`'a\`, 0}, {"`a\\", 0}, {"`\\`", 0},
		{`'\u`, 0}, {`'\x4`, 0}, {`'\u{4`, 0}, {`'\0`, 0}, {"'\\\n", 0}, {"`$", 0}, {"`{", 0}, {"`$\\{", 0}, {"'a' 'b", 4}, {"`a${b}", 5},
		{"`a${b}c", 5}, {"`a${b}c${d}", 10}, {"`a${`b", 4}, {"`a${`b${c}d` }", 13}, {"`a${'b}`", 4}, {"`${'", 3}, {"`a${b}\\", 5},
		{"`${a}`${b}`", 10},
	} {
		holdWrong(t, c.s, c.at)
	}
}

// shown writes tokens by letters for their kinds, with their texts and values.
func shown(l []api.Token) string {
	var out strings.Builder
	for _, k := range l {
		out.WriteByte("enwsNStHMT"[k.Kind])
		out.WriteString(k.Text + units.Text(k.Str))
		if k.Kind == api.TokNum {
			out.WriteString(strconv.FormatFloat(k.Num, 'g', -1, 64))
		}
		out.WriteByte(' ')
	}
	return out.String()
}

// P5.1: which } goes on with a template.
func TestTemplates(t *testing.T) {
	for _, c := range [][2]string{
		{"`a${b}c`", "Ha nb Tc e "},
		{"`${}`", "H T e "},
		{"`${a}${b}`", "H na M nb T e "},
		{"`a${b}c${d}e${f}g`", "Ha nb Mc nd Me nf Tg e "},
		{"`a${ {} }b`", "Ha s{ s} Tb e "},
		{"`a${ {b:{c:{}}} }d${ {} }e`", "Ha s{ nb s: s{ nc s: s{ s} s} s} Md s{ s} Te e "},
		{"`a${`b`}c`", "Ha tb Tc e "},
		{"`a${`b${c}d`}e`", "Ha Hb nc Td Te e "},
		{"`a${ {b:`c${ {} }d${e}f`} }g`", "Ha s{ nb s: Hc s{ s} Md ne Tf s} Tg e "},
		{"`a${`${`${b}`}`}c`", "Ha H H nb T T Tc e "},
		{"{`${a}`}", "s{ H na T s} e "},
		{"}`${a}`}", "s} H na T s} e "},
		{"{{`${ {}`}`}}`}", "s{ s{ H s{ s} t} T} s} e "},
		{"`${a}}`", "H na T} e "},
		{"`${'}'}`", "H S} T e "},
		{"`${/*}*/}`", "H T e "},
		{"`${//}\n}`", "H T e "},
		{"`${\n}a`}", "H Ta s} e "},
		{"`$${a}$`", "H$ na T$ e "},
		{"`$$$`", "t$$$ e "},
		{"`\\${a}`", "t${a} e "},
		{"`$\\{a}`", "t${a} e "},
		{"`\\\\${a}`", "H\\ na T e "},
		{"`}`", "t} e "},
		{"`{${a}}`", "H{ na T} e "},
		{"`a``b`", "ta tb e "},
		{"a`b${c}d`", "na Hb nc Td e "},
		// Each of these tokens is one: that more must follow is no matter of tokens.
		{"`a${", "Ha e "},
		{"`a${b", "Ha nb e "},
		{"`a${{}", "Ha s{ s} e "},
		{"`a${`b`", "Ha tb e "},
	} {
		if got := shown(scan(t, c[0])); got != c[1] {
			t.Errorf("Scan(%q): %s", c[0], got)
		}
	}
	hold(t, "`a${b\n}c${ /*\n*/ }d`",
		api.Token{Kind: api.TokHead, Str: of(t, "a"), To: 4},
		api.Token{Kind: api.TokName, Text: "b", From: 4, To: 5},
		api.Token{Kind: api.TokMiddle, Str: of(t, "c"), From: 6, To: 10, Line: true},
		api.Token{Kind: api.TokTail, Str: of(t, "d"), From: 17, To: 20, Line: true})
}

// P5.1: \ and each code point.
func TestEscapesOfAll(t *testing.T) {
	short := map[rune]uint16{'n': 10, 't': 9, 'b': 8, 'v': 11, 'f': 12, 'r': 13, '0': 0}
	for c := range rune(0x110000) {
		if c >= 0xD800 && c < 0xE000 {
			continue
		}
		s := "'\\" + string(c) + "'"
		l, at, e := lex.Scan(s)
		if strings.ContainsRune("123456789xu", c) {
			if len(l) != 0 || at != 0 || e != api.ErrToken {
				t.Fatalf("Scan(%q): %v, %d, %d", s, l, at, e)
			}
			continue
		}
		want := units.Point(c)
		if u, ok := short[c]; ok {
			want = units.Make([]uint16{u})
		} else if strings.ContainsRune("\n\r\u2028\u2029", c) {
			want = ""
		}
		if e != api.OK || at != 0 || len(l) != 2 || l[0] != (api.Token{Kind: api.TokStr, Str: want, To: len(s)}) {
			t.Fatalf("Scan(%q): %v, %d, %d", s, l, at, e)
		}
	}
}

// quoteBy is an oracle for Quote.
func quoteBy(l []uint16) string {
	out := `"`
	for _, u := range l {
		switch {
		case u == '"':
			out += `\"`
		case u == '\\':
			out += `\\`
		case u >= 32 && u <= 126:
			out += string(rune(u))
		default:
			hex := strconv.FormatUint(uint64(u), 16)
			out += `\u` + strings.Repeat("0", 4-len(hex)) + hex
		}
	}
	return out + `"`
}

// holdQuote asks for the literal of these units, and for them again of it.
func holdQuote(t *testing.T, l []uint16) {
	t.Helper()
	s := units.Make(l)
	for _, more := range []api.Str{"", "\x00", "a"} { // an odd byte does not count
		got := lex.Quote(s + more)
		if got != quoteBy(l) {
			t.Fatalf("Quote(%x): %s", s+more, got)
		}
		hold(t, got, api.Token{Kind: api.TokStr, Str: s, To: len(got)})
	}
}

// P5.4
func TestQuote(t *testing.T) {
	for _, c := range []struct {
		s    api.Str
		want string
	}{
		{"", `""`}, {"a", `""`}, {of(t, "a b"), `"a b"`}, {of(t, `'"\/`), `"'\"\\/"`}, {of(t, "\n\t\x00"), `"\u000a\u0009\u0000"`},
		{of(t, "\x1f ~\x7f"), `"\u001f ~\u007f"`}, {of(t, "\u00e9\u20ac"), `"\u00e9\u20ac"`}, {of(t, "\U0001F600"), `"\ud83d\ude00"`},
		{"\xD8\x00\xAB\xCD\xFF\xFF", `"\ud800\uabcd\uffff"`}, {of(t, "\u2028`${a}"), "\"\\u2028`${a}\""},
	} {
		if got := lex.Quote(c.s); got != c.want {
			t.Errorf("Quote(%x): %s, not %s", c.s, got, c.want)
		}
	}
}

// P5.4, P5.5: each unit, and all pairs of those at which something changes.
func TestQuoteOfAll(t *testing.T) {
	holdQuote(t, nil)
	for u := range 65536 {
		holdQuote(t, []uint16{uint16(u)})
	}
	some := []uint16{0, 8, 10, 13, 31, 32, '"', '\'', '0', '1', '9', 'A', 'a', 'n', 'u', 'x', '{', '}', '\\', '`', '$', 126, 127, 255, 0x2028, 0xD800, 0xDC00, 0xFFFF}
	for _, a := range some {
		for _, b := range some {
			holdQuote(t, []uint16{a, b})
			for _, c := range some {
				holdQuote(t, []uint16{a, b, c})
			}
		}
	}
}

// P5.5: long texts, up to the longest whose literal is a source.
func TestQuoteLong(t *testing.T) {
	rnd := rand.New(rand.NewSource(5))
	for range 50 {
		l := make([]uint16, rnd.Intn(3000))
		for i := range l {
			l[i] = uint16(rnd.Intn(65536) >> (rnd.Intn(3) * 5))
		}
		holdQuote(t, l)
	}
	long := units.Make(make([]uint16, (api.MaxSource-2)/6))
	if l := scan(t, lex.Quote(long)); len(l) != 2 || l[0].Str != long {
		t.Error("the longest text of units that are escaped")
	}
	plain := of(t, strings.Repeat("a", api.MaxSource-2))
	if l := scan(t, lex.Quote(plain)); len(l) != 2 || l[0].Str != plain {
		t.Error("the longest text")
	}
	if _, at, e := lex.Scan(lex.Quote(plain + "\x00a")); at != 0 || e != api.ErrLong {
		t.Errorf("a text too long: %d, %d", at, e)
	}
}
