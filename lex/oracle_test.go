package lex_test

import (
	"math/rand"
	"regexp"
	"slices"
	"sort"
	"strconv"
	"strings"
	"testing"

	"lintel/api"
	"lintel/digits"
	"lintel/lex"
	"lintel/units"
)

// The document's words of the tokens, as forms of which each stands at the beginning of what is left.
var (
	gapForm      = regexp.MustCompile(`^(?:[\t\v\f \x{A0}\x{FEFF}\n\r\x{2028}\x{2029}]|//[^\n\r\x{2028}\x{2029}]*|/\*(?s:.*?)\*/)*`)
	lineForm     = regexp.MustCompile(`[\n\r\x{2028}\x{2029}]`)
	nameAtForm   = regexp.MustCompile(`^[a-zA-Z$_][a-zA-Z0-9$_]*`)
	numberAtForm = regexp.MustCompile(`^\.?[0-9]`)
	signAtForm   = signsForm()
	textForm     = regexp.MustCompile(`^(?:'((?s:\\.|[^\\])*?)'|"((?s:\\.|[^\\])*?)")`)
	pieceForm    = regexp.MustCompile("^[`}]((?s:\\\\.|[^\\\\])*?)(`|\\$\\{)")
	gapForms     = regexp.MustCompile(gapForm.String() + "$")
)

// signsForm is a form that takes the longest sign.
func signsForm() *regexp.Regexp {
	all := strings.Fields(signs)
	sort.SliceStable(all, func(i, j int) bool { return len(all[i]) > len(all[j]) })
	for i, s := range all {
		all[i] = regexp.QuoteMeta(s)
	}
	return regexp.MustCompile("^(?:" + strings.Join(all, "|") + ")")
}

// partForm is a form of a part of a text, and what its value is.
type partForm struct {
	form *regexp.Regexp
	tell func(part string) api.Str
}

// hexUnits is the value of an escape whose number is known to be a code point's.
func hexUnits(part string) api.Str {
	n, _ := strconv.ParseUint(strings.Trim(part, `\xu{}`), 16, 64)
	return units.Point(rune(n))
}

// parts are the forms of what texts and templates are made of; the first that stands there counts.
func parts(template bool) []partForm {
	same := func(part string) api.Str { u, _, _ := units.Of(part); return u }
	short := func(part string) api.Str {
		return same(strings.NewReplacer("n", "\n", "t", "\t", "b", "\b", "v", "\v", "f", "\f", "r", "\r", "0", "\x00").Replace(part[1:]))
	}
	line := func(string) api.Str { return same("\n") }
	out := []partForm{
		{regexp.MustCompile(`^\\x[0-9a-fA-F]{2}`), hexUnits},
		{regexp.MustCompile(`^\\u[0-9a-fA-F]{4}`), hexUnits},
		{regexp.MustCompile(`^\\u\{[0-9a-fA-F]+\}`), hexUnits},
		{regexp.MustCompile(`^\\(?:\r\n|[\n\r\x{2028}\x{2029}])`), func(string) api.Str { return "" }},
		{regexp.MustCompile(`^\\[ntbvfr0]`), short},
		{regexp.MustCompile(`^\\(?s:[^0-9xu])`), func(part string) api.Str { return same(part[1:]) }},
	}
	if template {
		out = append(out, partForm{regexp.MustCompile(`^(?:\r\n|\r)`), line})
		return append(out, partForm{regexp.MustCompile(`^(?s:[^\\\r])`), same})
	}
	return append(out, partForm{regexp.MustCompile(`^[^\\\n\r]`), same})
}

var (
	nought   = regexp.MustCompile(`^\\0[0-9]`)
	tooGreat = regexp.MustCompile(`^\\u\{0*(?:1[1-9a-fA-F]|[2-9a-fA-F][0-9a-fA-F])[0-9a-fA-F]{4}\}|^\\u\{0*[1-9a-fA-F][0-9a-fA-F]{6,}\}`)
	ofText   = parts(false)
	ofPiece  = parts(true)
)

// valueBy is the value of what stands between the ends of a text or piece.
func valueBy(raw string, forms []partForm) (api.Str, bool) {
	var out api.Str
next:
	for raw != "" {
		if nought.MatchString(raw) || tooGreat.MatchString(raw) {
			return "", false
		}
		for _, f := range forms {
			if part := f.form.FindString(raw); part != "" {
				out += f.tell(part)
				raw = raw[len(part):]
				continue next
			}
		}
		return "", false
	}
	return out, true
}

// tokenBy is the token that s begins with; s is not empty, begins with no blank and no comment.
func tokenBy(s string, closes bool) (api.Token, bool) {
	if name := nameAtForm.FindString(s); name != "" {
		kind := api.TokName
		if slices.Contains(strings.Fields(reserved), name) {
			kind = api.TokWord
		}
		return api.Token{Kind: kind, Text: name, To: len(name)}, true
	}
	if numberAtForm.MatchString(s) {
		x, size, e := digits.Literal(s)
		return api.Token{Kind: api.TokNum, Num: x, To: size}, e == api.OK
	}
	if s[0] == '\'' || s[0] == '"' {
		m := textForm.FindStringSubmatch(s)
		if m == nil {
			return api.Token{}, false
		}
		value, ok := valueBy(m[1]+m[2], ofText)
		return api.Token{Kind: api.TokStr, Str: value, To: len(m[0])}, ok
	}
	if s[0] == '`' || s[0] == '}' && closes {
		m := pieceForm.FindStringSubmatch(s)
		if m == nil {
			return api.Token{}, false
		}
		value, ok := valueBy(m[1], ofPiece)
		kinds := map[string]int{"``": api.TokTemplate, "`${": api.TokHead, "}${": api.TokMiddle, "}`": api.TokTail}
		return api.Token{Kind: kinds[s[:1]+m[2]], Str: value, To: len(m[0])}, ok
	}
	sign := signAtForm.FindString(s)
	return api.Token{Kind: api.TokSign, Text: sign, To: len(sign)}, sign != "" && !strings.HasPrefix(s, "/*")
}

// scanBy is an oracle for Scan of UTF-8 that is short enough: the tokens up to the first that is
// none, and its place, or -1. What is open is kept as letters: t for a ${, b for a brace.
func scanBy(s string) ([]api.Token, int) {
	var l []api.Token
	open := ""
	at := 0
	for {
		gap := gapForm.FindString(s[at:])
		line := lineForm.MatchString(gap)
		at += len(gap)
		if at == len(s) {
			return append(l, api.Token{Kind: api.TokEnd, From: at, To: at, Line: line}), -1
		}
		k, ok := tokenBy(s[at:], strings.HasSuffix(open, "t"))
		if !ok {
			return l, at
		}
		switch {
		case k.Kind == api.TokHead:
			open += "t"
		case k.Kind == api.TokTail:
			open = open[:len(open)-1]
		case k.Text == "{":
			open += "b"
		case k.Text == "}":
			open = strings.TrimSuffix(open, "b")
		}
		k.From, k.To, k.Line = at, at+k.To, line
		at = k.To
		l = append(l, k)
	}
}

// holdBy holds Scan and Each against the oracle.
func holdBy(t *testing.T, s string) {
	t.Helper()
	want, place := scanBy(s)
	l, at, e := lex.Scan(s)
	if place < 0 {
		if e != api.OK || at != 0 || !slices.Equal(l, want) {
			t.Fatalf("Scan(%q):\n%v, %d, %d, not\n%v", s, l, at, e, want)
		}
		holdAllThere(t, s, l)
	} else if e != api.ErrToken || at != place || len(l) != 0 {
		t.Fatalf("Scan(%q): %v, %d, %d, not %d", s, l, at, e, place)
	}
	if each := slices.Collect(lex.Each(s)); !slices.Equal(each, want) {
		t.Fatalf("Each(%q):\n%v, not\n%v", s, each, want)
	}
}

// holdAllThere asks for order, and for nothing but blanks, ends of lines and comments between tokens.
func holdAllThere(t *testing.T, s string, l []api.Token) {
	t.Helper()
	behind := 0
	for i, k := range l {
		if k.From < behind || k.To < k.From || k.To > len(s) || (k.To == k.From) != (k.Kind == api.TokEnd) {
			t.Fatalf("Scan(%q): %v behind %d", s, k, behind)
		}
		if gap := s[behind:k.From]; !gapForms.MatchString(gap) || lineForm.MatchString(gap) != k.Line {
			t.Fatalf("Scan(%q): %q ahead of %v", s, gap, k)
		}
		if (k.Kind == api.TokEnd) != (i == len(l)-1) || k.Kind == api.TokEnd && k.From != len(s) {
			t.Fatalf("Scan(%q): %v at %d", s, k, i)
		}
		behind = k.To
	}
}

// all tells all texts of at most so many of some pieces.
func all(most int, some []string, tell func(string)) {
	var grow func(string, int)
	grow = func(s string, left int) {
		tell(s)
		if left == 0 {
			return
		}
		for _, piece := range some {
			grow(s+piece, left-1)
		}
	}
	grow("", most)
}

// P5.1, P5.2, P5.6: all short sources of signs.
func TestSignsOfAll(t *testing.T) {
	all(2, strings.Fields(signs), func(s string) { holdBy(t, s) })
	all(4, strings.Split("<>=!+-*/&|.?", ""), func(s string) { holdBy(t, s) })
}

// P5.1, P5.2, P5.6: all short sources of what tokens begin, go on and end with.
func TestScanOfAll(t *testing.T) {
	all(3, []string{
		"a", "let", "x", "u", "0", "9", ".", "e", "'", `"`, "`", "\\", "${", "$", "{", "}", "/", "*", "//", "/*", "*/", "+", "=", ";",
		" ", "\n", "\r", "\u2028", "\u00a0", "\ufeff", "\u00e9", "\u2003", "#", "\x00", "\U0001F600",
	}, func(s string) { holdBy(t, s) })
	all(5, []string{"`", "${", "{", "}", "a", "\\", "\n", "/*", "*/"}, func(s string) { holdBy(t, s) })
	all(5, []string{"'", "\\", "u", "{", "}", "0", "x", "\r"}, func(s string) { holdBy(t, s) })
}

// P5.1: all short escapes, within a text and a template.
func TestEscapesBy(t *testing.T) {
	some := []string{"0", "1", "8", "a", "F", "g", "x", "u", "{", "}", "\\", "n", "\n", "\r", "\u2029", "'", "`", "$", "\u00e9"}
	all(3, some, func(s string) {
		holdBy(t, "'\\"+s+"'")
		holdBy(t, "`\\"+s+"`")
	})
	all(7, []string{"0", "1", "F"}, func(s string) { holdBy(t, "'\\u{"+s+"}'") })
	all(5, []string{"0", "d", "8", "g"}, func(s string) { holdBy(t, "'\\u"+s+"'"); holdBy(t, "'\\x"+s+"'") })
}

// P5.1, P5.2, P5.6: many sources of pieces as they come.
func TestScanMany(t *testing.T) {
	rnd := rand.New(rand.NewSource(14))
	some := append(strings.Fields(signs+" "+reserved), "a", "of", "$1", "_", "0", "1.5", ".5", "0x1F", "1e3", "'a'", `"\n"`, "`a`", "`a${", "}b${",
		"}c`", "${", "{", "}", "{", "}", "`", "`", "'\\u{1F600}'", "'\\u0041'", "'\\x41'", "'\\0'", "// a\n", "/* b */", "/* \n */", " ", " ", " ", "\n", "\r\n",
		"\t", "\u2028", "\u00a0", "\ufeff", "\\", "\\\n", "'", `"`, "\u20ac", "#")
	for range 60000 {
		var s strings.Builder
		for range rnd.Intn(24) {
			s.WriteString(some[rnd.Intn(len(some))])
			if rnd.Intn(2) == 0 {
				s.WriteByte(' ')
			}
		}
		holdBy(t, s.String())
	}
}

// P1, P5.1: whatever bytes there are, a call ends with one of four errors.
func TestAnything(t *testing.T) {
	rnd := rand.New(rand.NewSource(15))
	for range 100000 {
		b := make([]byte, rnd.Intn(16))
		for i := range b {
			b[i] = "'\"`\\${}/*\n ux0a1.\xe2\x80\xa8\xff\xc3"[rnd.Intn(22)]
		}
		s := string(b)
		_, place, e := units.Of(s)
		if e == api.OK {
			holdBy(t, s)
			continue
		}
		if l, at, got := lex.Scan(s); len(l) != 0 || at != place || got != e {
			t.Fatalf("Scan(%q): %v, %d, %d", s, l, at, got)
		}
		lex.Name(s)
		lex.Word(s)
		lex.Quote(api.Str(s))
	}
}
