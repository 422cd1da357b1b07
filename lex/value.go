package lex

import (
	"strings"
	"unicode/utf8"

	"lintel/api"
	"lintel/units"
)

const (
	backquote = "`"
	hole      = "${" // behind it a template's tokens begin
	escapes   = "ntbvfr"
	escaped   = "\n\t\b\v\f\r" // what they stand for, one by one
)

// text reads a text, which ends with the sign that it begins with.
func (r *reader) text() api.Token {
	quote := r.src[r.at : r.at+1]
	r.at++
	value, _ := r.value(quote)
	return api.Token{Kind: api.TokStr, Str: value}
}

// template reads a template up to its end or its first ${.
func (r *reader) template() api.Token {
	value, whole := r.piece()
	if whole {
		return api.Token{Kind: api.TokTemplate, Str: value}
	}
	r.open = append(r.open, 0)
	return api.Token{Kind: api.TokHead, Str: value}
}

// goOn reads a template's piece from the } on that closes its ${.
func (r *reader) goOn() api.Token {
	value, last := r.piece()
	if !last {
		return api.Token{Kind: api.TokMiddle, Str: value}
	}
	r.open = r.open[:len(r.open)-1]
	return api.Token{Kind: api.TokTail, Str: value}
}

// piece reads a template's piece, which begins with one byte, and says whether the template ends with it.
func (r *reader) piece() (api.Str, bool) {
	r.at++
	value, end := r.value(backquote, hole)
	return value, end == backquote
}

// value reads units up to the first of the ends, which it answers and passes over. Within a template
// lines may end, within a text none.
func (r *reader) value(ends ...string) (api.Str, string) {
	var out strings.Builder
	rest := r.src[r.at:]
	lines := ends[0] == backquote
	next := 0
	for at, c := range rest {
		if at < next { // read with what is ahead of it
			continue
		}
		if end := endAhead(rest[at:], ends); end != "" {
			r.at += at + len(end)
			return api.Str(out.String()), end
		}
		part, size := partAhead(rest[at:], c, lines)
		out.WriteString(string(part))
		next = at + size
	}
	panic(api.ErrToken)
}

// endAhead is that of the ends that s begins with; empty: none.
func endAhead(s string, ends []string) string {
	for _, end := range ends {
		if strings.HasPrefix(s, end) {
			return end
		}
	}
	return ""
}

// partAhead is the value of the escape, the end of a line or the other code point c that s begins
// with, and how many bytes that has.
func partAhead(s string, c rune, lines bool) (api.Str, int) {
	switch c {
	case '\\':
		value, size := escapeAhead(s[1:])
		return value, 1 + size
	case '\n', '\r':
		if !lines {
			panic(api.ErrToken)
		}
		return units.Point('\n'), lineEndAhead(s)
	}
	return units.Point(c), utf8.RuneLen(c)
}

// lineEndAhead is how many bytes the end of a line has that s begins with.
func lineEndAhead(s string) int {
	if strings.HasPrefix(s, "\r\n") {
		return 2
	}
	_, size := utf8.DecodeRuneInString(s)
	return size
}

// escapeAhead is the value of an escape that goes on with s behind its \, and how many bytes of s it
// has: none at the source's end, where what is being read has no end either.
func escapeAhead(s string) (api.Str, int) {
	c, size := utf8.DecodeRuneInString(s)
	switch {
	case c == 'x':
		return fixedAhead(s, 2)
	case strings.HasPrefix(s, "u{"):
		return bracedAhead(s)
	case c == 'u':
		return fixedAhead(s, 4)
	case c == '0' && !digitAt(s, 1):
		return units.Point(0), size
	case digitAt(s, 0):
		panic(api.ErrToken)
	case endsLine(c):
		return "", lineEndAhead(s)
	}
	if i := strings.IndexRune(escapes, c); i >= 0 {
		c = rune(escaped[i])
	}
	return units.Point(c), size
}

func digitAt(s string, i int) bool { return i < len(s) && isDigit(s[i]) }

// fixedAhead reads a letter and so many digits to the base 16 behind it.
func fixedAhead(s string, count int) (api.Str, int) {
	size := 1 + count
	if len(s) < size {
		panic(api.ErrToken)
	}
	return units.Point(hexed(s[1:size])), size
}

// bracedAhead reads u{, digits to the base 16 and }.
func bracedAhead(s string) (api.Str, int) {
	end := strings.IndexByte(s, '}')
	if end <= len("u{") {
		panic(api.ErrToken)
	}
	c := hexed(s[len("u{"):end])
	if c > utf8.MaxRune {
		panic(api.ErrToken)
	}
	return units.Point(c), end + 1
}

// hexed is the number of these digits to the base 16; of all numbers that are no code points one
// stands for the others, so that it grows no further however many digits there are.
func hexed(s string) rune {
	sum := rune(0)
	for _, c := range s {
		sum = min(sum<<4+worth(c), utf8.MaxRune+1)
	}
	return sum
}

// worth is what a digit to the base 16 is worth.
func worth(c rune) rune {
	switch {
	case '0' <= c && c <= '9':
		return c - '0'
	case 'a' <= c && c <= 'f':
		return c - 'a' + 10
	case 'A' <= c && c <= 'F':
		return c - 'A' + 10
	}
	panic(api.ErrToken)
}
