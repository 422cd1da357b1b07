package show

import (
	"strconv"
	"strings"

	"lintel/api"
	"lintel/digits"
	"lintel/lex"
	"lintel/units"
)

// reader goes through nodes in parentheses; what can't be read it throws. The nodes about the one that
// is being read are kept in a list, not in calls: a text may have them far deeper than any tree.
type reader struct {
	rest string
	done []api.Node // those that are closed, by their numbers
	open []api.Node // those that are not, each within the one ahead
}

// nodesOf is the nodes of which s is written, kids first, in order.
func nodesOf(s string) (l []api.Node, e api.Errno) {
	defer func() {
		if thrown := recover(); thrown != nil {
			l, e = nil, thrown.(api.Errno)
		}
	}()
	r := &reader{rest: s}
	r.begin()
	for len(r.open) > 0 {
		if r.skip(" ") {
			r.begin()
		} else {
			r.end()
		}
	}
	hold(r.rest == "")
	return r.done, api.OK
}

// hold throws, unless what stands there could have been written.
func hold(ok bool) {
	if !ok {
		panic(api.ErrLisp)
	}
}

// skip passes over part, if it comes next.
func (r *reader) skip(part string) bool {
	rest, found := strings.CutPrefix(r.rest, part)
	r.rest = rest
	return found
}

// begin reads a node up to its kids.
func (r *reader) begin() {
	hold(r.skip("("))
	n := api.Node{Kind: r.whole()}
	r.texts(&n)
	if n.Kind == api.NodeNum {
		hold(r.skip(" "))
		n.Num = r.number()
	}
	if r.skip(" @") {
		n.At = r.whole()
		hold(n.At != 0)
	}
	r.open = append(r.open, n)
}

// end closes a node: it gets its number, which the node about it has as a kid's.
func (r *reader) end() {
	hold(r.skip(")"))
	last := len(r.open) - 1
	if last > 0 {
		up := &r.open[last-1]
		up.Kids = append(up.Kids, len(r.done))
	}
	r.done = append(r.done, r.open[last])
	r.open = r.open[:last]
}

// texts reads what n has of texts: a Text that isn't empty, and the Str of a NodeStr behind it.
func (r *reader) texts(n *api.Node) {
	var l []api.Str
	for strings.HasPrefix(r.rest, ` "`) {
		r.skip(" ")
		l = append(l, r.quoted())
	}
	if n.Kind == api.NodeStr {
		hold(len(l) > 0)
		n.Str = l[len(l)-1]
		l = l[:len(l)-1]
	}
	hold(len(l) <= 1)
	if len(l) == 1 {
		n.Text = units.Text(l[0])
		hold(n.Text != "" && units.Compare(unitsOf(n.Text), l[0]) == 0)
	}
}

// quoted reads a text literal: one that lex.Quote writes, and no other of that value.
func (r *reader) quoted() api.Str {
	size := quotedAhead(r.rest)
	literal := r.rest[:size]
	s := valueOf(literal[1 : size-1])
	hold(lex.Quote(s) == literal)
	r.rest = r.rest[size:]
	return s
}

// quotedAhead is how many bytes the text literal has that s begins with.
func quotedAhead(s string) int {
	for i := 1; i < len(s); i++ {
		switch s[i] {
		case '"':
			return i + 1
		case '\\':
			i++
		}
	}
	panic(api.ErrLisp)
}

// valueOf is the units of what stands between a literal's quotes.
func valueOf(s string) api.Str {
	var l []uint16
	for s != "" {
		u, size := unitAhead(s)
		l = append(l, u)
		s = s[size:]
	}
	return units.Make(l)
}

// unitAhead is the unit that s begins with, and how many bytes stand for it.
func unitAhead(s string) (uint16, int) {
	const escape = len(`\u0000`)
	switch {
	case s[0] != '\\':
		return uint16(s[0]), 1
	case s[1] != 'u':
		return uint16(s[1]), 2
	}
	hold(len(s) >= escape)
	u, err := strconv.ParseUint(s[len(`\u`):escape], 16, 16)
	hold(err == nil)
	return uint16(u), escape
}

// word reads up to the blank or parenthesis behind it.
func (r *reader) word() string {
	size := strings.IndexAny(r.rest, " )")
	hold(size >= 0)
	w := r.rest[:size]
	r.rest = r.rest[size:]
	return w
}

// whole reads a whole number from 0 on.
func (r *reader) whole() int {
	w := r.word()
	n, err := strconv.Atoi(w)
	hold(err == nil && n >= 0 && strconv.Itoa(n) == w)
	return n
}

// number reads a number from 0 on, as digits.Show writes it.
func (r *reader) number() float64 {
	w := r.word()
	x := digits.Read(unitsOf(w))
	hold(x >= 0 && units.Text(digits.Show(x)) == w)
	return x
}
