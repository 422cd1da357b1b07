package tree

import (
	"math"
	"slices"
	"strings"

	"lintel/api"
	"lintel/lex"
	"lintel/nums"
	"lintel/units"
)

// checker goes through nodes, each behind those with lesser numbers.
type checker struct {
	nodes []api.Node
	rows  [api.NodeComputed + 1]row
	taken []bool // by numbers: whether a node is some node's kid
	kids  int    // how many are
}

// Check: P6.1.
func Check(l []api.Node) (int, api.Errno) {
	if len(l) > api.MaxNodes {
		return 0, api.ErrLong
	}
	c := checker{nodes: l, rows: rows(), taken: make([]bool, len(l))}
	for i := range l {
		if !c.take(i) || !c.fits(l[i]) {
			return i, api.ErrTree
		}
	}
	last := len(l) - 1
	// A second NodeScript is nobody's kid: no row has a place for one.
	if last < 0 || l[last].Kind != api.NodeScript || c.kids != last {
		return max(last, 0), api.ErrTree
	}
	if Deep(l) > api.MaxDeep {
		return 0, api.ErrDeep
	}
	return 0, api.OK
}

// take gives node i its kids: whether they stand ahead of it, and are nobody's yet.
func (c *checker) take(i int) bool {
	for _, k := range c.nodes[i].Kids {
		if !isAhead(k, i) || c.taken[k] {
			return false
		}
		c.taken[k] = true
		c.kids++
	}
	return true
}

// isAhead says whether a kid's number is that of a node ahead of node i.
func isAhead(kid, i int) bool { return 0 <= kid && kid < i }

// fits says whether n, whose kids fit, is as the table says.
func (c *checker) fits(n api.Node) bool {
	if n.Kind < api.NodeNum || n.Kind > api.NodeComputed || n.At < 0 {
		return false
	}
	return numFits(n) && strFits(n) && c.textFits(n) && c.kidsFit(n) && c.fine(n)
}

func numFits(n api.Node) bool {
	if n.Kind == api.NodeNum {
		return n.Num >= 0 && !math.Signbit(n.Num)
	}
	return nums.Same(n.Num, 0, api.SameValue)
}

func strFits(n api.Node) bool { return n.Kind == api.NodeStr || units.Len(n.Str) == 0 }

func (c *checker) textFits(n api.Node) bool {
	switch c.rows[n.Kind].text {
	case aName:
		return lex.Name(n.Text)
	case nameOrNone:
		return n.Text == "" || lex.Name(n.Text)
	case nameOrWord:
		return lex.Name(n.Text) || lex.Word(n.Text)
	case operator:
		return slices.Contains(strings.Fields(operators(n.Kind)), n.Text)
	}
	return n.Text == ""
}

// kidsFit says whether as many kids are there as must be, and each in a place for its kind.
func (c *checker) kidsFit(n api.Node) bool {
	r := c.rows[n.Kind]
	for i := range n.Kids {
		if !r.place(i).has(c.kid(n, i).Kind) {
			return false
		}
	}
	return len(n.Kids) >= len(r.must)
}

// kid is the node that is n's kid i.
func (c *checker) kid(n api.Node, i int) api.Node { return c.nodes[n.Kids[i]] }

// fine says whether n, of whose kids each alone is in place, has them together as the table says.
func (c *checker) fine(n api.Node) bool {
	switch n.Kind {
	case api.NodeGetter:
		return len(c.parameters(n).Kids) == 0
	case api.NodeSetter:
		p := c.parameters(n)
		return len(p.Kids) == 1 && c.kid(p, 0).Kind == api.NodeName
	case api.NodeTemplate:
		return c.alternates(n)
	case api.NodeParams:
		return c.restIsLast(n)
	case api.NodeForIn, api.NodeForOf:
		first := c.kid(n, 0)
		return first.Kind == api.NodeName || len(first.Kids) == 1 && len(c.kid(first, 0).Kids) == 0
	case api.NodeTry:
		return c.tryFits(n)
	case api.NodeSwitch:
		return c.defaults(n) <= 1
	}
	return true
}

// parameters is the NodeParams of a getter's, a setter's function.
func (c *checker) parameters(n api.Node) api.Node { return c.kid(c.kid(n, 1), 0) }

// alternates says whether a template's kids begin and end with a text, and every other one is one.
func (c *checker) alternates(n api.Node) bool {
	for i := 0; i < len(n.Kids); i += 2 {
		if c.kid(n, i).Kind != api.NodeStr {
			return false
		}
	}
	return len(n.Kids)%2 == 1
}

// restIsLast says whether no kid but the last one is a NodeRest.
func (c *checker) restIsLast(n api.Node) bool {
	for i := range len(n.Kids) - 1 {
		if c.kid(n, i).Kind == api.NodeRest {
			return false
		}
	}
	return true
}

// tryFits says whether a try has a catch or a finally, and a caught one's name just with a catch.
func (c *checker) tryFits(n api.Node) bool {
	catches := c.kid(n, 1).Kind == api.NodeBlock
	finally := c.kid(n, 2).Kind == api.NodeBlock
	return (catches || finally) && catches == (n.Text != "")
}

func (c *checker) defaults(n api.Node) int {
	count := 0
	for i := range n.Kids {
		if c.kid(n, i).Kind == api.NodeDefault {
			count++
		}
	}
	return count
}
