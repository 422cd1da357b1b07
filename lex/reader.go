package lex

import (
	"iter"
	"strings"
	"unicode/utf8"

	"lintel/api"
	"lintel/digits"
	"lintel/units"
)

const longestSign = 4 // bytes of >>>=

// reader goes through a source, token by token.
type reader struct {
	src  string
	at   int   // what is ahead of it has been read
	from int   // where the token or comment begins that is being read
	open []int // for each ${ that is not closed yet how many braces are open behind it
}

// told tells the tokens of s; or, and no more behind it, an error with its place as From.
func told(s string) iter.Seq2[api.Token, api.Errno] {
	return func(yield func(api.Token, api.Errno) bool) {
		if at, e := readable(s); e != api.OK {
			yield(api.Token{From: at}, e)
			return
		}
		r := &reader{src: s}
		for {
			t, e := r.next()
			if !yield(t, e) || e != api.OK || t.Kind == api.TokEnd {
				return
			}
		}
	}
}

// readable asks whether s may be a source at all, and if not where it fails.
func readable(s string) (int, api.Errno) {
	if len(s) > api.MaxSource {
		return 0, api.ErrLong
	}
	_, at, e := units.Of(s)
	return at, e
}

// next reads the token that comes next, or tells the place of what is none. What is thrown is caught
// here, ahead of the loop that tokens are told to: what that one throws is not the reader's.
func (r *reader) next() (t api.Token, e api.Errno) {
	defer func() {
		if thrown := recover(); thrown != nil {
			t, e = api.Token{From: r.from}, thrown.(api.Errno)
		}
	}()
	line := r.skip()
	t = r.token()
	t.From, t.To, t.Line = r.from, r.at, line
	return t, api.OK
}

// skip passes over what stands between tokens, and says whether a line ends there.
func (r *reader) skip() bool {
	line := false
	for {
		r.from = r.at
		rest := r.src[r.at:]
		c, size := utf8.DecodeRuneInString(rest)
		switch {
		case strings.HasPrefix(rest, "//"):
			size = lineAhead(rest)
		case strings.HasPrefix(rest, "/*"):
			size = commentAhead(rest)
		case !isBlank(c) && !endsLine(c):
			return line
		}
		line = line || strings.ContainsFunc(rest[:size], endsLine)
		r.at += size
	}
}

// lineAhead is how many bytes s has up to the first end of a line.
func lineAhead(s string) int {
	if i := strings.IndexFunc(s, endsLine); i >= 0 {
		return i
	}
	return len(s)
}

// commentAhead is how many bytes the comment has that s begins with the /* of.
func commentAhead(s string) int {
	const sign = len("/*") // its * is none of the */ that ends it
	i := strings.Index(s[sign:], "*/")
	if i < 0 {
		panic(api.ErrToken)
	}
	return sign + i + len("*/")
}

func isBlank(c rune) bool {
	switch c {
	case '\t', '\v', '\f', ' ', 0xA0, 0xFEFF:
		return true
	}
	return false
}

func endsLine(c rune) bool {
	switch c {
	case '\n', '\r', 0x2028, 0x2029:
		return true
	}
	return false
}

// token reads the token that stands here, without its place.
func (r *reader) token() api.Token {
	rest := r.src[r.at:]
	switch {
	case rest == "":
		return api.Token{Kind: api.TokEnd}
	case nameAhead(rest) > 0:
		return r.name()
	case numberAhead(rest):
		return r.number()
	case rest[0] == '"' || rest[0] == '\'':
		return r.text()
	case rest[0] == '`':
		return r.template()
	case rest[0] == '}' && r.closes():
		return r.goOn()
	}
	return r.sign()
}

// take passes over some bytes and answers them in memory of their own.
func (r *reader) take(size int) string {
	from := r.at
	r.at += size
	return strings.Clone(r.src[from:r.at])
}

func (r *reader) name() api.Token {
	text := r.take(nameAhead(r.src[r.at:]))
	if Word(text) {
		return api.Token{Kind: api.TokWord, Text: text}
	}
	return api.Token{Kind: api.TokName, Text: text}
}

// nameAhead is how many bytes the name, or word, has that s begins with; 0: none.
func nameAhead(s string) int {
	for i := range len(s) {
		if !isLetter(s[i]) && (i == 0 || !isDigit(s[i])) {
			return i
		}
	}
	return len(s)
}

// isLetter says whether a name may begin with c.
func isLetter(c byte) bool {
	return 'a' <= c && c <= 'z' || 'A' <= c && c <= 'Z' || c == '$' || c == '_'
}

func isDigit(c byte) bool { return '0' <= c && c <= '9' }

func (r *reader) number() api.Token {
	x, size, e := digits.Literal(r.src[r.at:])
	if e != api.OK {
		panic(api.ErrToken)
	}
	r.at += size
	return api.Token{Kind: api.TokNum, Num: x}
}

// numberAhead says whether s, which is not empty, begins as numbers do.
func numberAhead(s string) bool {
	return isDigit(s[0]) || s[0] == '.' && len(s) > 1 && isDigit(s[1])
}

func (r *reader) sign() api.Token {
	text := r.take(signAhead(r.src[r.at:]))
	switch text {
	case "{":
		r.brace(1)
	case "}":
		r.brace(-1)
	}
	return api.Token{Kind: api.TokSign, Text: text}
}

// signAhead is how many bytes the longest sign has that s begins with.
func signAhead(s string) int {
	for size := min(longestSign, len(s)); size > 0; size-- {
		if isSign(s[:size]) {
			return size
		}
	}
	panic(api.ErrToken)
}

func isSign(s string) bool {
	switch s {
	case "{", "}", "(", ")", "[", "]", ".", "...", ";", ",", "<", ">", "<=", ">=", "==", "!=", "===", "!==",
		"+", "-", "*", "/", "%", "**", "++", "--", "<<", ">>", ">>>", "&", "|", "^", "!", "~", "&&", "||", "?", ":",
		"=", "+=", "-=", "*=", "/=", "%=", "**=", "<<=", ">>=", ">>>=", "&=", "|=", "^=", "=>":
		return true
	}
	return false
}

// brace counts a brace behind the innermost ${ that is not closed yet.
func (r *reader) brace(more int) {
	if last := len(r.open) - 1; last >= 0 {
		r.open[last] += more
	}
}

// closes says whether a } here closes a ${, not a brace.
func (r *reader) closes() bool {
	last := len(r.open) - 1
	return last >= 0 && r.open[last] == 0
}
