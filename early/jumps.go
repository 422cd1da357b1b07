package early

import "lintel/api"

// jumps is which jumps without a label may stand in some place.
type jumps struct{ returns, breaks, continues bool }

// scope is what jumps in some place may leave. Each function, loop, switch and label makes one, which
// embeds the scope about it; a function's embeds none, since no jump gets out of it.
type scope struct {
	jumps
	*scope
	label string // empty: it is no label's
	loop  bool   // of a label: its body is a loop, through further labels
}

// labelled is the nearest scope from s on that has that label; nil: there is none.
func (s *scope) labelled(label string) *scope {
	for s != nil && s.label != label {
		s = s.scope
	}
	return s
}

// scopesOf is of each node of a tree the scope in which it stands.
func scopesOf(l []api.Node) []*scope {
	out := make([]*scope, len(l))
	out[len(l)-1] = &scope{}
	// Kids stand ahead: from the last node on each one's scope is known when its turn comes.
	for n := len(l) - 1; n >= 0; n-- {
		in := within(l, n, out[n])
		for _, k := range l[n].Kids {
			out[k] = in
		}
	}
	return out
}

// within is the scope of the kids of node n, which itself stands in s.
func within(l []api.Node, n int, s *scope) *scope {
	switch kind := l[n].Kind; {
	case isFunction(kind):
		return &scope{jumps: jumps{returns: true}}
	case isLoop(kind):
		return &scope{jumps: jumps{s.returns, true, true}, scope: s}
	case kind == api.NodeSwitch:
		return &scope{jumps: jumps{s.returns, true, s.continues}, scope: s}
	case kind == api.NodeLabel:
		return &scope{jumps: s.jumps, scope: s, label: l[n].Text, loop: labelsLoop(l, n)}
	}
	return s
}

// labelsLoop says whether the body of label n is a loop, through further labels.
func labelsLoop(l []api.Node, n int) bool {
	for l[n].Kind == api.NodeLabel {
		n = l[n].Kids[0]
	}
	return isLoop(l[n].Kind)
}
