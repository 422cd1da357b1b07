package early

import (
	"lintel/api"
	"lintel/tree"
)

// reader is a tree with what the rules ask of its nodes.
type reader struct {
	nodes []api.Node
	ups   []int
	twins []bool
	about []*scope // by nodes: the scope in which each stands
}

// newReader is one of a list that tree.Check takes.
func newReader(l []api.Node) *reader {
	ups := tree.Ups(l)
	return &reader{nodes: l, ups: ups, twins: (&namer{nodes: l, ups: ups}).twins(), about: scopesOf(l)}
}

// rules is the document's table in its order: whether a rule tells a node.
func rules() []func(*reader, int) bool {
	return []func(*reader, int) bool{
		(*reader).isTwin,
		(*reader).isConstWithoutValue,
		(*reader).leavesNothing,
		(*reader).leavesNoLabel,
		(*reader).isLabelTwice,
		(*reader).returnsFromNothing,
		(*reader).namesWhatMayNotBe,
		(*reader).asksArguments,
		(*reader).deletesName,
	}
}

// first is the number, from 1 on, of the first rule that tells node n; 0: none does.
func (r *reader) first(all []func(*reader, int) bool, n int) int {
	for i, tells := range all {
		if tells(r, n) {
			return i + 1
		}
	}
	return 0
}

// up is the node whose kid n is; n is not the script.
func (r *reader) up(n int) api.Node { return r.nodes[r.ups[n]] }

func (r *reader) isTwin(n int) bool { return r.twins[n] }

func (r *reader) isConstWithoutValue(n int) bool {
	node := r.nodes[n]
	if node.Kind != api.NodeInit || len(node.Kids) > 0 || r.up(n).Kind != api.NodeConst {
		return false
	}
	return !isEach(r.up(r.ups[n]).Kind)
}

func (r *reader) leavesNothing(n int) bool {
	switch node := r.nodes[n]; {
	case node.Text != "":
		return false
	case node.Kind == api.NodeBreak:
		return !r.about[n].breaks
	case node.Kind == api.NodeContinue:
		return !r.about[n].continues
	}
	return false
}

func (r *reader) leavesNoLabel(n int) bool {
	node := r.nodes[n]
	jumps := node.Kind == api.NodeBreak || node.Kind == api.NodeContinue
	if !jumps || node.Text == "" {
		return false
	}
	meant := r.about[n].labelled(node.Text)
	return meant == nil || node.Kind == api.NodeContinue && !meant.loop
}

func (r *reader) isLabelTwice(n int) bool {
	node := r.nodes[n]
	return node.Kind == api.NodeLabel && r.about[n].labelled(node.Text) != nil
}

func (r *reader) returnsFromNothing(n int) bool {
	return r.nodes[n].Kind == api.NodeReturn && !r.about[n].returns
}

func (r *reader) namesWhatMayNotBe(n int) bool {
	node := r.nodes[n]
	return (node.Text == "eval" || node.Text == "arguments") && r.names(n)
}

// names says whether node n's Text names what is declared, a function, or a target.
func (r *reader) names(n int) bool {
	switch r.nodes[n].Kind {
	case api.NodeInit, api.NodeRest, api.NodeTry, api.NodeFun, api.NodeFunc:
		return true
	case api.NodeName:
		return r.up(n).Kind == api.NodeParams || r.isTarget(n)
	}
	return false
}

// isTarget says whether the name n is assigned to.
func (r *reader) isTarget(n int) bool {
	switch up := r.up(n); up.Kind {
	case api.NodePre, api.NodePost, api.NodeAssign, api.NodeForIn, api.NodeForOf:
		return up.Kids[0] == n
	}
	return false
}

// asksArguments takes those for its own, too, that the rule ahead of it tells first.
func (r *reader) asksArguments(n int) bool {
	return r.nodes[n].Kind == api.NodeName && r.nodes[n].Text == "arguments"
}

func (r *reader) deletesName(n int) bool {
	node := r.nodes[n]
	return node.Kind == api.NodeUnary && node.Text == "delete" && r.nodes[node.Kids[0]].Kind == api.NodeName
}
