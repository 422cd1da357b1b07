package scope

import (
	"strings"

	"lintel/api"
	"lintel/early"
	"lintel/tree"
)

// reader is a tree with what its names mean.
type reader struct {
	nodes    []api.Node
	ups      []int
	places   []int    // by nodes: how many stand ahead, in Walk's order
	sizes    []int    // by nodes: how many its tree has, itself counted
	in       []*scope // by nodes: the scope in which it stands
	bindings []api.Binding
	sure     []int // by bindings: the place from which on nobody asks, in the binding's own function
	uses     []api.Use
}

// read is a tree that breaks no rule.
func read(l []api.Node) (*reader, api.Errno) {
	if _, e := early.Check(l); e != api.OK {
		return nil, e
	}
	r := &reader{nodes: l, ups: tree.Ups(l), places: make([]int, len(l)), sizes: sizesOf(l), in: make([]*scope, len(l))}
	ahead := 0
	for n := range tree.Walk(l) {
		r.places[n] = ahead
		ahead++
		r.open(n)
		r.note(n)
	}
	r.settle()
	for i := range r.uses {
		r.mean(&r.uses[i]) // when all are bound: a use may stand ahead of its binding
	}
	return r, api.OK
}

// sizesOf is by nodes how many nodes its tree has.
func sizesOf(l []api.Node) []int {
	out := make([]int, len(l))
	for n, node := range l {
		out[n] = 1
		for _, k := range node.Kids {
			out[n] += out[k]
		}
	}
	return out
}

// isWithin says whether node n is node top or stands below it: in Walk's order a tree is in one piece.
func (r *reader) isWithin(n, top int) bool {
	return r.places[top] <= r.places[n] && r.places[n] < r.behind(top)
}

// behind is the place behind the tree of node n.
func (r *reader) behind(n int) int { return r.places[n] + r.sizes[n] }

// open says in which scopes the kids of node n stand.
func (r *reader) open(n int) {
	node := r.nodes[n]
	in := r.scopeIn(n)
	for _, k := range node.Kids {
		r.in[k] = in
	}
	switch node.Kind {
	case api.NodeSwitch:
		r.in[node.Kids[0]] = r.in[n]
	case api.NodeTry:
		// Made here, not at the block: the caught name is bound ahead of the walk to it.
		r.in[node.Kids[1]] = in.within(node.Kids[1], in.fn)
	}
}

// scopeIn is the scope that node n begins, else the one in which it stands.
func (r *reader) scopeIn(n int) *scope {
	about := r.in[n]
	switch r.nodes[n].Kind {
	case api.NodeFunc:
		own := about.within(n, n) // its own name is outside of its parameters and body
		return own.within(n, n)
	case api.NodeScript, api.NodeArrow, api.NodeFun:
		return about.within(n, n)
	case api.NodeSwitch, api.NodeFor, api.NodeForIn, api.NodeForOf:
		return about.within(n, about.fn)
	case api.NodeBlock:
		// A function's body belongs to the function; a catch has its scope already.
		if !isFunction(r.up(n).Kind) && about.node != n {
			return about.within(n, about.fn)
		}
	}
	return about
}

// note takes down what node n binds, or that it is a use.
func (r *reader) note(n int) {
	node, in := r.nodes[n], r.in[n]
	switch node.Kind {
	case api.NodeInit:
		if r.up(n).Kind == api.NodeConst {
			r.bind(n, api.BindConst, in)
		} else {
			r.bind(n, api.BindLet, in)
		}
	case api.NodeFun:
		r.bind(n, api.BindFun, in)
	case api.NodeRest:
		r.bind(n, api.BindParam, in)
	case api.NodeName:
		if r.up(n).Kind == api.NodeParams {
			r.bind(n, api.BindParam, in)
		} else {
			r.uses = append(r.uses, api.Use{Node: n, Func: in.fn})
		}
	case api.NodeTry:
		r.bind(n, api.BindCatch, r.in[node.Kids[1]])
	case api.NodeFunc:
		r.bind(n, api.BindSelf, r.in[node.Kids[0]].scope)
	}
}

// bind takes down that node n's Text is a name of scope s; a try or function without one has no name.
func (r *reader) bind(n, kind int, s *scope) {
	name := strings.Clone(r.nodes[n].Text)
	if name == "" {
		return
	}
	s.names[name] = len(r.bindings)
	r.bindings = append(r.bindings, api.Binding{Name: name, Kind: kind, Node: n, Scope: s.node, Func: s.fn})
}

// settle says of all bindings from which place on they are sure to be there.
func (r *reader) settle() {
	r.sure = make([]int, len(r.bindings))
	for i, b := range r.bindings {
		if !isDeclared(b) {
			continue
		}
		switch about := r.nodes[b.Scope]; about.Kind {
		case api.NodeSwitch:
			r.sure[i] = len(r.nodes) // one clause may be come to past another's declarations
		case api.NodeForIn, api.NodeForOf:
			r.sure[i] = r.places[about.Kids[2]]
		default:
			r.sure[i] = r.behind(b.Node)
		}
	}
}

// isDeclared says whether it is a let's or a const's: others are there from the beginning of their scope on.
func isDeclared(b api.Binding) bool { return b.Kind == api.BindLet || b.Kind == api.BindConst }

// mean says what a use means, and of its binding who takes it.
func (r *reader) mean(u *api.Use) {
	u.Bind = r.in[u.Node].find(r.nodes[u.Node].Text)
	if u.Bind < 0 {
		return
	}
	b := &r.bindings[u.Bind]
	u.Asks = isDeclared(*b) && (u.Func != b.Func || r.places[u.Node] < r.sure[u.Bind])
	if u.Func != b.Func {
		b.Taken = true
		b.Turns = b.Kind == api.BindLet && r.nodes[b.Scope].Kind == api.NodeFor
	}
}

// up is the node whose kid n is; n is not the script.
func (r *reader) up(n int) api.Node { return r.nodes[r.ups[n]] }
