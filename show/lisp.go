package show

import (
	"strconv"

	"lintel/api"
	"lintel/digits"
	"lintel/lex"
	"lintel/units"
)

// lister writes nodes in parentheses.
type lister struct {
	nodes []api.Node
	put   func(string)
}

func (w lister) node(n api.Node) {
	w.put("(" + strconv.Itoa(n.Kind))
	if n.Text != "" {
		spare(len(n.Text), api.MaxLisp)
		w.text(unitsOf(n.Text))
	}
	switch n.Kind {
	case api.NodeStr:
		w.text(n.Str)
	case api.NodeNum:
		w.put(" " + units.Text(digits.Show(n.Num)))
	}
	if n.At != 0 {
		w.put(" @" + strconv.Itoa(n.At))
	}
	for _, k := range n.Kids {
		w.put(" ")
		w.node(w.nodes[k])
	}
	w.put(")")
}

func (w lister) text(s api.Str) {
	spare(units.Len(s), api.MaxLisp)
	w.put(" " + lex.Quote(s))
}

// unitsOf is the units of what is known to be UTF-8.
func unitsOf(s string) api.Str {
	u, _, _ := units.Of(s)
	return u
}
