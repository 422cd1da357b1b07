package show

import (
	"strings"

	"lintel/api"
)

// ending is what may have to stand behind a statement.
type ending int

const (
	whole ending = iota // nothing
	owes                // a ; unless a } or the end is next
	takes               // nothing, but a ; that is next would be taken as its own: that of a do
)

// writer writes a source, token by token.
type writer struct {
	nodes []api.Node
	put   func(string)
	last  string // the token that was put last
	ends  ending // of the statement that was written last, if no token is behind it yet
}

// kid is the node that is n's kid i.
func (w *writer) kid(n api.Node, i int) api.Node { return w.nodes[n.Kids[i]] }

// token puts a token, with what must stand ahead of it.
func (w *writer) token(t string) {
	if w.ends == owes && t != "}" || w.ends == takes && t == ";" {
		w.join(";")
	}
	w.ends = whole
	w.join(t)
}

// tokens puts several.
func (w *writer) tokens(l ...string) {
	for _, t := range l {
		w.token(t)
	}
}

// join puts a token, with a blank ahead where it would be read together with the last one.
func (w *writer) join(t string) {
	if runsOn(w.last, t) {
		w.put(" ")
	}
	w.put(t)
	w.last = t
}

// runsOn says whether token b right behind token a would be read as one with it, or with a part of it.
func runsOn(a, b string) bool {
	if a == "" {
		return false
	}
	end, begin := a[len(a)-1], b[0]
	switch begin {
	case '+', '-':
		return end == begin
	case '.':
		return strings.Trim(a, "0123456789") == "" // a whole number, whose point it would be
	}
	return inName(end) && inName(begin)
}

// inName says whether c may stand within a name, a word or a number.
func inName(c byte) bool {
	return 'a' <= c && c <= 'z' || 'A' <= c && c <= 'Z' || '0' <= c && c <= '9' || c == '$' || c == '_'
}
