package early

import (
	"slices"

	"lintel/api"
)

// namer is a tree of which the names of its scopes are asked.
type namer struct {
	nodes []api.Node
	ups   []int
}

// naming is the nodes whose Texts are the names of the scope that node n begins, in Walk's order;
// none, if it begins none.
func (m *namer) naming(n int) []int {
	kids := m.nodes[n].Kids
	switch kind := m.nodes[n].Kind; {
	case kind == api.NodeScript:
		return m.declared(nil, kids)
	case isFunction(kind):
		// An arrow's body may be an expression: its kids declare nothing.
		return m.declared(slices.Clone(m.nodes[kids[0]].Kids), m.nodes[kids[1]].Kids)
	case kind == api.NodeBlock:
		return m.namingBlock(n)
	case kind == api.NodeSwitch:
		var out []int
		for _, clause := range kids[1:] {
			out = m.declared(out, m.nodes[clause].Kids)
		}
		return out
	case kind == api.NodeFor || isEach(kind):
		return m.declared(nil, kids[:1])
	}
	return nil
}

// namingBlock is naming of a block: a function's body belongs to the function, and a catch's block
// has the name that its NodeTry has.
func (m *namer) namingBlock(n int) []int {
	up := m.ups[n]
	switch about := m.nodes[up]; {
	case isFunction(about.Kind):
		return nil
	case about.Kind == api.NodeTry && about.Kids[1] == n:
		return m.declared([]int{up}, m.nodes[n].Kids)
	}
	return m.declared(nil, m.nodes[n].Kids)
}

// declared puts behind out the nodes by which some statements name something; whatever else stands
// among these is passed over.
func (m *namer) declared(out, statements []int) []int {
	for _, k := range statements {
		switch m.nodes[k].Kind {
		case api.NodeLet, api.NodeConst:
			out = append(out, m.nodes[k].Kids...)
		case api.NodeFun:
			out = append(out, k)
		}
	}
	return out
}

// twins says of each node whether its name stands ahead of it in the same scope.
func (m *namer) twins() []bool {
	out := make([]bool, len(m.nodes))
	for n := range m.nodes {
		naming := m.naming(n)
		if len(naming) < 2 {
			continue
		}
		times := make(map[string]int, len(naming))
		for _, k := range naming {
			text := m.nodes[k].Text
			out[k] = times[text] > 0
			times[text]++
		}
	}
	return out
}

func isFunction(kind int) bool {
	return kind == api.NodeFunc || kind == api.NodeArrow || kind == api.NodeFun
}

// isEach says whether it is a for with in or of.
func isEach(kind int) bool { return kind == api.NodeForIn || kind == api.NodeForOf }

func isLoop(kind int) bool {
	return kind == api.NodeFor || isEach(kind) || kind == api.NodeWhile || kind == api.NodeDo
}
