package parse_test

import (
	"math/rand"
	"slices"
	"strings"
	"testing"

	"lintel/api"
	"lintel/lex"
	"lintel/parse"
)

// judges are charts of both kinds for scripts and for expressions alone.
type judges struct{ loose, strict *chart }

func newJudges() judges {
	const whole = "whole : script END\nwhole1 : expression+ END\n"
	return judges{newChart(loose + whole), newChart(strict + whole)}
}

// hold holds what parse says of a source, which has tokens, against what the charts say.
func (j judges) hold(t *testing.T, src string, script bool) {
	t.Helper()
	part, read := "whole", parse.Script
	if !script {
		part, read = "whole1", parse.Expr
	}
	tokens, _, e := lex.Scan(src)
	if e != api.OK {
		t.Fatal(src, e)
	}
	l, at, e := read(src)
	if e != api.OK && (e != api.ErrSyntax || l != nil) {
		t.Fatalf("%q: error %d, %d nodes", src, e, len(l))
	}
	loose, strict := j.loose.wrongAt(part, tokens), j.strict.wrongAt(part, tokens)
	switch {
	case e == api.OK:
		if loose >= 0 || strict >= 0 || at != 0 {
			t.Fatalf("%q: OK, %d; want a wrong token: %d, %d", src, at, loose, strict)
		}
	case loose >= 0 && at == tokens[loose].From:
	default: // a ++ or -- that stands ahead of what is no target
		i := slices.IndexFunc(tokens, func(t api.Token) bool { return t.From == at })
		if i < 0 || tokens[i].Text != "++" && tokens[i].Text != "--" || strict < 0 || loose >= 0 && loose <= i {
			t.Fatalf("%q: wrong at %d; want the token %d (or %d)", src, at, loose, strict)
		}
	}
}

// joined is tokens with blanks, or as often as that ends of lines, between them.
func joined(r *rand.Rand, tokens []string, often int) string {
	var out strings.Builder
	for _, s := range tokens {
		switch {
		case s == "auto" && r.Intn(3) > 0:
			s = ";"
		case s == "auto":
			s = "\n"
		}
		out.WriteString(s)
		if r.Intn(often) == 0 {
			out.WriteByte('\n')
		} else {
			out.WriteByte(' ')
		}
	}
	return out.String()
}

// P8.1, P8.2: sources as they come, whole and with some tokens changed.
func TestAsTheyCome(t *testing.T) {
	t.Parallel()
	r := rand.New(rand.NewSource(81))
	j := newJudges()
	more := strings.Fields("{ } ( ) [ ] . ... ; , < = + ** ++ -- ! ? : += => || in instanceof of get set a b 1 's' `t` `h${ }m${ }t` let const function if else while do for break continue return throw try catch finally switch case default new this null delete typeof class")
	for i := range 2000 {
		script := i%5 > 0
		part := "script"
		if !script {
			part = "expression+"
		}
		tokens := j.loose.some(r, part, 5+r.Intn(25))
		if len(tokens) > 40 {
			tokens = tokens[:40]
		}
		for range r.Intn(3) {
			at := r.Intn(len(tokens) + 1)
			to := min(at+r.Intn(2), len(tokens))
			tokens = slices.Replace(slices.Clone(tokens), at, to, slices.Repeat([]string{more[r.Intn(len(more))]}, r.Intn(2))...)
		}
		src := joined(r, tokens, 1+r.Intn(20))
		if _, _, e := lex.Scan(src); e == api.OK {
			j.hold(t, src, script)
		}
	}
}

// beginnings are scripts' beginnings, behind which all pairs of tokens are tried.
var beginnings = []string{
	"", "a", "a\n", "a;", "{", "{ a", "1", "( a )", "(", "( a", "( a ,", "( a , b", "( a , b )", "( )", "( ... a", "( ... a )", "x = ( a , ... b )", "- ( a", "- ( a , b )", "[ a ,", "f (", "f ( a ,", "f ( ...",
	"a =>", "a => b", "a => { }", "( a ) =>", "a = b =>", "a ? b", "a ? ( b )", "a ? b : c", "a +", "a + b", "- a", "++ a", "++", "a ++", "a **", "a ** - b", "a . b", "a .", "a [ b", "new", "new a", "new a . b", "new a ( b )", "new new a",
	"let", "let a", "let a =", "let a = b", "let a ,", "function", "function f", "function f (", "function f ( a", "function f ( a ,", "function f ( ... a", "function f ( )", "( function", "( function f",
	"if", "if ( a )", "if ( a ) b", "if ( a ) b ;", "if ( a ) { }", "if ( a ) ; else", "while ( a )", "do", "do ;", "do a", "do ; while ( a )", "a :", "a : b :",
	"for", "for (", "for ( a", "for ( of", "for ( let", "for ( let a", "for ( let of", "for ( let a = b", "for ( let a = b ?", "for ( let a = b ? c : d", "for ( a in", "for ( a of", "for ( a of b", "for ( a in b", "for ( const a of b )", "for ( a = b", "for ( a =>", "for ( a => b", "for ( ;", "for ( ; a", "for ( ; ;", "for ( ; ; a", "for ( ; ; )", "for ( ( a ) ", "for ( a . b", "for ( ( a , b ) => c", "for ( [ a",
	"break", "break a", "continue", "return", "return a", "throw", "throw a", "try", "try { }", "try { } catch", "try { } catch (", "try { } catch ( a", "try { } catch ( a )", "try { } catch ( a ) { }", "try { } finally", "try { } finally { }",
	"switch ( a )", "switch ( a ) {", "switch ( a ) { case b", "switch ( a ) { case b :", "switch ( a ) { default", "switch ( a ) { default :", "switch ( a ) { default : b ; case c :", "switch ( a ) { case b ? c :",
	"( {", "( { a", "( { a ,", "( { a :", "( { a : b", "( { a (", "( { a ( b )", "( { 1", "( { if", "( { 's'", "( { [ a", "( { [ a ]", "( { get", "( { get a", "( { get a (", "( { get a ( )", "( { set", "( { set a (", "( { set a ( b", "( { set a ( b )", "( { get ,", "( { get get",
	"`h${", "`h${ a", "`h${ a }m${", "`h${ a }t`", "typeof", "delete a", "a in", "a instanceof b", "a || b", "a = b", "( a ) =", "a . b +=",
}

// P8.1: behind each of many beginnings each pair of tokens, the second one, where that matters, on a
// line of its own, too.
func TestGoingOn(t *testing.T) {
	t.Parallel()
	c := newChart(loose + "whole : script END\n")
	some := strings.Fields("{ } ( ) [ . ... ; , < = ** ++ - ? : => in of get a 1 `t` let function if else while for break return throw catch finally case default new this")
	lines := strings.Fields("} ( ; ++ - => a `t` else while")
	for _, begin := range beginnings {
		s := c.start("whole")
		tokens, _, _ := lex.Scan(begin)
		for _, k := range tokens[:len(tokens)-1] {
			if s = c.on(s, k); s == nil {
				t.Fatal(begin)
			}
		}
		for _, a := range some {
			goesOn(t, c, s, begin, "\n"+a)
			src, behind := goesOn(t, c, s, begin, " "+a)
			for _, b := range some {
				goesOn(t, c, behind, src, " "+b)
			}
			for _, b := range lines {
				goesOn(t, c, behind, src, "\n"+b)
			}
		}
	}
}

// goesOn puts one more token behind a source, and holds what parse says of it against the chart's state,
// which it answers, nil: nothing goes on with that token.
func goesOn(t *testing.T, c *chart, s *state, begin, more string) (string, *state) {
	t.Helper()
	src := begin + more
	tokens, _, e := lex.Scan(src)
	if e != api.OK || s == nil {
		return src, nil
	}
	last, end := tokens[len(tokens)-2], tokens[len(tokens)-1]
	behind := c.on(s, last)
	at, wrong := last.From, true
	if behind != nil {
		at, wrong = end.From, c.on(behind, end) == nil
	}
	_, got, e := parse.Script(src)
	if wrong && got == at && e == api.ErrSyntax || !wrong && e == api.OK {
		return src, behind
	}
	if !slices.ContainsFunc(tokens, func(t api.Token) bool { return t.From == got && t.Text == "++" }) {
		t.Errorf("%q: wrong at %d, error %d; want %d, %v", src, got, e, at, wrong)
	}
	return src, behind
}
