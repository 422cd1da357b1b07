package parse_test

import (
	"math/rand"
	"slices"
	"strings"

	"lintel/api"
)

// rules is the grammar of chapter 8, line by line: a part and the ways in which it may be made, with |
// between them. In quotes stand signs, words and names of their own; NAME, NUM and so on are the kinds
// of tokens, ANY is a name or word, auto is a semicolon that is put in. Of parts with @ there are two:
// with + for it a free in may stand there, with - none. The parts in angles take no token: they ask of
// the next one whether it is on the same line, no { or neither { nor function. (A new without arguments
// is none that . [ ( could stand behind: those are its callee's, or its own.)
const rules = `
script : statements
statements : | statements statement
block : '{' statements '}'
end : ';' | auto
statement : body | declaration+ end | 'function' NAME parameters block
declaration@ : 'let' inits@ | 'const' inits@
inits@ : init@ | inits@ ',' init@
init@ : NAME | NAME '=' assignment@
body : block | ';' | 'if' condition body | 'if' condition body 'else' body | 'while' condition body
body : 'do' body 'while' condition | 'do' body 'while' condition ';'
body : 'for' '(' first ';' perhaps ';' perhaps ')' body | 'for' '(' each 'in' expression+ ')' body | 'for' '(' each 'of' assignment+ ')' body
body : 'break' end | 'break' <line> NAME end | 'continue' end | 'continue' <line> NAME end
body : 'return' end | 'return' <line> expression+ end | 'throw' <line> expression+ end
body : 'try' block catch | 'try' block finally | 'try' block catch finally
body : 'switch' condition '{' cases '}' | 'switch' condition '{' cases 'default' ':' statements cases '}'
body : NAME ':' body | <statement> expression+ end
condition : '(' expression+ ')'
first : | declaration- | expression-
perhaps : | expression+
each : NAME | 'let' NAME | 'const' NAME
catch : 'catch' '(' NAME ')' block
finally : 'finally' block
cases : | cases 'case' expression+ ':' statements
expression@ : assignment@ | expression@ ',' assignment@
assignment@ : conditional@ | target assigns assignment@ | NAME <line> '=>' result@ | parameters <line> '=>' result@
assigns : '=' | '+=' | '-=' | '*=' | '/=' | '%=' | '**=' | '<<=' | '>>=' | '>>>=' | '&=' | '|=' | '^='
result@ : block | <arrow> assignment@
parameters : '(' ')' | '(' names ')' | '(' names ',' rest ')' | '(' rest ')'
names : NAME | names ',' NAME
rest : '...' NAME
conditional@ : or@ | or@ '?' assignment+ ':' assignment@
or@ : and@ | or@ '||' and@
and@ : bitor@ | and@ '&&' bitor@
bitor@ : bitxor@ | bitor@ '|' bitxor@
bitxor@ : bitand@ | bitxor@ '^' bitand@
bitand@ : equality@ | bitand@ '&' equality@
equality@ : relation@ | equality@ '==' relation@ | equality@ '!=' relation@ | equality@ '===' relation@ | equality@ '!==' relation@
relation@ : shift | relation@ '<' shift | relation@ '>' shift | relation@ '<=' shift | relation@ '>=' shift | relation@ 'instanceof' shift
relation+ : relation+ 'in' shift
shift : sum | shift '<<' sum | shift '>>' sum | shift '>>>' sum
sum : product | sum '+' product | sum '-' product
product : power | product '*' power | product '/' power | product '%' power
power : unary | update '**' power
unary : update | 'delete' unary | 'void' unary | 'typeof' unary | '+' unary | '-' unary | '~' unary | '!' unary
update : postfix | '++' stepped | '--' stepped
postfix : member | new | target <line> '++' | target <line> '--'
target : NAME | member '.' ANY | member '[' expression+ ']' | '(' target ')'
member : primary | 'new' callee arguments | member '.' ANY | member '[' expression+ ']' | member arguments
new : 'new' callee | 'new' new
callee : primary | 'new' callee arguments | callee '.' ANY | callee '[' expression+ ']'
arguments : '(' ')' | '(' list ')'
list : argument | list ',' argument
argument : assignment+ | '...' assignment+
primary : 'this' | NAME | NUM | STR | 'null' | 'true' | 'false' | '[' ']' | '[' list ']' | '[' list ',' ']'
primary : '{' '}' | '{' properties '}' | '{' properties ',' '}' | 'function' parameters block | 'function' NAME parameters block
primary : TEMPLATE | HEAD expression+ holes TAIL | '(' expression+ ')'
holes : | holes MIDDLE expression+
properties : property | properties ',' property
property : key ':' assignment+ | NAME | key parameters block | 'get' key '(' ')' block | 'set' key '(' NAME ')' block
key : ANY | STR | NUM | '[' assignment+ ']'
`

// With loose the operand of a ++ that stands ahead may be any, as far as it goes on: that it is none is
// told with the place of the operator. With strict it is a target.
const (
	loose  = rules + "stepped : unary\n"
	strict = rules + "stepped : target\n"
)

// way is one of the ways in which a part may be made.
type way struct {
	part string
	of   []string
}

// chart reads tokens as Earley's algorithm does, all ways at once: a token that no way goes on with is
// one that no script goes on with.
type chart struct {
	ways    []way
	made    map[string][]int // by parts: the numbers of their ways
	empty   map[string]bool  // the parts that may be made of nothing
	shorter map[string]int   // for each part how deep its least tree is
}

func newChart(rules string) *chart {
	c := &chart{made: map[string][]int{}, empty: map[string]bool{}, shorter: map[string]int{}}
	for _, line := range strings.Split(strings.TrimSpace(rules), "\n") {
		for _, sign := range []string{"+", "-"} {
			c.learn(strings.ReplaceAll(line, "@", sign))
			if !strings.Contains(line, "@") {
				break
			}
		}
	}
	for range c.made {
		for _, w := range c.ways {
			if deep := c.deep(w); deep < unknown && (c.shorter[w.part] == 0 || deep < c.shorter[w.part]) {
				c.shorter[w.part] = deep
			}
		}
	}
	return c
}

// learn takes in a line of the rules.
func (c *chart) learn(line string) {
	fields := strings.Fields(line)
	part, of := fields[0], []string(nil)
	for _, f := range append(fields[2:], "|") {
		if f != "|" {
			of = append(of, f)
			continue
		}
		c.made[part] = append(c.made[part], len(c.ways))
		c.ways = append(c.ways, way{part, of})
		c.empty[part] = c.empty[part] || len(of) == 0
		of = nil
	}
}

const unknown = 1 << 20

// deep is how deep the least tree made in that way is, as far as that is known.
func (c *chart) deep(w way) int {
	most := 0
	for _, f := range w.of {
		if c.made[f] != nil && c.shorter[f] == 0 {
			return unknown
		}
		most = max(most, c.shorter[f])
	}
	return most + 1
}

// item is a way of which so much has been read, from that token on.
type item struct{ way, read, from int }

// state is what is under way ahead of a token.
type state struct {
	begun  []item
	past   [][]item       // all that was under way ahead of each token that is read
	closed map[int][]item // all that is under way, by what is asked of the next token
}

func (c *chart) start(part string) *state {
	s := &state{closed: map[int][]item{}}
	for _, w := range c.made[part] {
		s.begun = append(s.begun, item{way: w})
	}
	return s
}

// next is the part that comes next in an item, empty: it is whole.
func (c *chart) next(i item) string {
	if of := c.ways[i.way].of; i.read < len(of) {
		return of[i.read]
	}
	return ""
}

// all is all that is under way at s, if that token is next.
func (c *chart) all(s *state, t api.Token) []item {
	asked := 0
	for i, part := range []string{"<line>", "<arrow>", "<statement>"} {
		if asks(part, t) {
			asked |= 1 << i
		}
	}
	if s.closed[asked] == nil {
		s.closed[asked] = c.close(s, t)
	}
	return s.closed[asked]
}

func (c *chart) close(s *state, t api.Token) []item {
	var out []item
	seen := map[item]bool{}
	add := func(i item) {
		if !seen[i] {
			seen[i] = true
			out = append(out, i)
		}
	}
	for _, i := range s.begun {
		add(i)
	}
	for n := 0; n < len(out); n++ {
		i := out[n]
		part := c.next(i)
		if part == "" {
			ups := out
			if i.from < len(s.past) {
				ups = s.past[i.from]
			}
			for _, up := range ups {
				if c.next(up) == c.ways[i.way].part {
					add(item{up.way, up.read + 1, up.from})
				}
			}
			continue
		}
		for _, w := range c.made[part] {
			add(item{w, 0, len(s.past)})
		}
		if c.empty[part] || asks(part, t) {
			add(item{i.way, i.read + 1, i.from})
		}
	}
	return out
}

// asks says whether that part asks something of the next token that holds.
func asks(part string, next api.Token) bool {
	brace, function := next.Text == "{", next.Text == "function"
	switch part {
	case "<line>":
		return !next.Line
	case "<arrow>":
		return !brace
	case "<statement>":
		return !brace && !function
	}
	return false
}

// step is what is under way behind a token, or behind a semicolon that is put in ahead of it, nil: nothing goes on with it.
func (c *chart) step(s *state, t api.Token, put bool) *state {
	all := c.all(s, t)
	out := &state{past: append(slices.Clip(s.past), all), closed: map[int][]item{}}
	for _, i := range all {
		if part := c.next(i); part != "" && (put && part == "auto" || !put && fits(part, t)) {
			out.begun = append(out.begun, item{i.way, i.read + 1, i.from})
		}
	}
	if len(out.begun) == 0 {
		return nil
	}
	return out
}

// on is what is under way behind a token, perhaps with a semicolon that is put in ahead of it: that is
// done where the token itself does not fit, and only there.
func (c *chart) on(s *state, t api.Token) *state {
	if out := c.step(s, t, false); out != nil {
		return out
	}
	if t.Line || t.Text == "}" || t.Kind == api.TokEnd {
		if put := c.step(s, t, true); put != nil {
			return c.step(put, t, false)
		}
	}
	return nil
}

// kinds is which kinds of tokens the rules' large letters stand for, and tokens of them.
var kinds = map[string]struct {
	kinds []int
	some  []string
}{
	"END":      {[]int{api.TokEnd}, nil},
	"NAME":     {[]int{api.TokName}, []string{"a", "b", "c", "of", "get", "set"}},
	"ANY":      {[]int{api.TokName, api.TokWord}, []string{"a", "b", "of", "get", "set", "in", "new", "let"}},
	"NUM":      {[]int{api.TokNum}, []string{"1", "0", ".5"}},
	"STR":      {[]int{api.TokStr}, []string{"'s'", `""`}},
	"TEMPLATE": {[]int{api.TokTemplate}, []string{"`t`", "``"}},
	"HEAD":     {[]int{api.TokHead}, []string{"`h${"}},
	"MIDDLE":   {[]int{api.TokMiddle}, []string{"}m${"}},
	"TAIL":     {[]int{api.TokTail}, []string{"}t`"}},
}

// fits says whether a token is that of a way.
func fits(part string, t api.Token) bool {
	if k, ok := kinds[part]; ok {
		return slices.Contains(k.kinds, t.Kind)
	}
	return t.Text != "" && part == "'"+t.Text+"'"
}

// wrongAt is the number of the first token that nothing goes on with, -1: none.
func (c *chart) wrongAt(part string, tokens []api.Token) int {
	s := c.start(part)
	for i, t := range tokens {
		if s = c.on(s, t); s == nil {
			return i
		}
	}
	return -1
}

// some is tokens of a part as they come, none deeper than that unless it must be; "auto" for a
// semicolon that may perhaps be left out.
func (c *chart) some(r *rand.Rand, part string, deep int) []string {
	if c.made[part] == nil {
		return token(r, part)
	}
	var may []way
	for _, w := range c.made[part] {
		if c.deep(c.ways[w]) <= max(deep, c.shorter[part]) {
			may = append(may, c.ways[w])
		}
	}
	var out []string
	for _, f := range may[r.Intn(len(may))].of {
		out = append(out, c.some(r, f, deep-1)...)
	}
	return out
}

// token is one that fits, if the part takes any.
func token(r *rand.Rand, part string) []string {
	if strings.HasPrefix(part, "<") {
		return nil
	}
	if some := kinds[part].some; some != nil {
		return []string{some[r.Intn(len(some))]}
	}
	return []string{strings.Trim(part, "'")}
}
