package early_test

import (
	"slices"

	"lintel/api"
	"lintel/tree"
)

// oracle asks the document's table from below: of each node what stands about it.
type oracle struct {
	l     []api.Node
	ups   []int
	order []int // the nodes in Walk's order
}

func newOracle(l []api.Node) *oracle {
	o := &oracle{l: l, ups: tree.Ups(l)}
	for n := range tree.Walk(l) {
		o.order = append(o.order, n)
	}
	return o
}

var (
	functions = []int{api.NodeFunc, api.NodeArrow, api.NodeFun}
	loops     = []int{api.NodeFor, api.NodeForIn, api.NodeForOf, api.NodeWhile, api.NodeDo}
)

func (o *oracle) is(n int, kinds ...int) bool { return slices.Contains(kinds, o.l[n].Kind) }

// about is what stands about n in its function, from the nearest on, and whether that is no script.
func (o *oracle) about(n int) (out []int, inFunction bool) {
	for n = o.ups[n]; n >= 0; n = o.ups[n] {
		if o.is(n, functions...) {
			return out, true
		}
		out = append(out, n)
	}
	return out, false
}

// scopeOf is the node that begins the scope of which n's Text is a name; -1: it is none of any.
func (o *oracle) scopeOf(n int) int {
	up := o.ups[n]
	switch {
	case o.is(n, api.NodeTry) && o.l[n].Text != "":
		return o.l[n].Kids[1]
	case o.is(n, api.NodeRest), o.is(n, api.NodeName) && o.is(up, api.NodeParams):
		return o.ups[up]
	case o.is(n, api.NodeInit):
		return o.scopeOfStatement(up)
	case o.is(n, api.NodeFun):
		return o.scopeOfStatement(n)
	}
	return -1
}

func (o *oracle) scopeOfStatement(n int) int {
	up := o.ups[n]
	if o.is(up, api.NodeCase, api.NodeDefault) || o.is(up, api.NodeBlock) && o.is(o.ups[up], functions...) {
		return o.ups[up]
	}
	return up
}

// names is the names of node n's scope.
func (o *oracle) names(n int) []string {
	var out []string
	for _, k := range o.order {
		if o.scopeOf(k) == n {
			out = append(out, o.l[k].Text)
		}
	}
	return out
}

// tells says whether a rule tells node n.
func (o *oracle) tells(rule, n int) bool {
	x := o.l[n]
	about, inFunction := o.about(n)
	has := func(kinds ...int) bool {
		return slices.ContainsFunc(about, func(a int) bool { return o.is(a, kinds...) })
	}
	jump := o.is(n, api.NodeBreak, api.NodeContinue)
	label := slices.IndexFunc(about, func(a int) bool { return o.is(a, api.NodeLabel) && o.l[a].Text == x.Text })
	switch rule {
	case 1:
		return o.isTwin(n)
	case 2:
		return o.is(n, api.NodeInit) && len(x.Kids) == 0 && o.is(about[0], api.NodeConst) && (len(about) < 2 || !o.is(about[1], api.NodeForIn, api.NodeForOf))
	case 3:
		return jump && x.Text == "" && !has(loops...) && !(o.is(n, api.NodeBreak) && has(api.NodeSwitch))
	case 4:
		return jump && x.Text != "" && (label < 0 || o.is(n, api.NodeContinue) && !o.is(o.labelled(about[label]), loops...))
	case 5:
		return o.is(n, api.NodeLabel) && label >= 0
	case 6:
		return o.is(n, api.NodeReturn) && !inFunction
	case 7:
		return (x.Text == "eval" || x.Text == "arguments") && (o.scopeOf(n) >= 0 || o.is(n, api.NodeFunc, api.NodeFun) || o.isTarget(n))
	case 8:
		return o.is(n, api.NodeName) && x.Text == "arguments" && !o.tells(7, n)
	}
	return o.is(n, api.NodeUnary) && x.Text == "delete" && o.is(x.Kids[0], api.NodeName)
}

// labelled is a label's body, through further labels.
func (o *oracle) labelled(n int) int {
	if o.is(n, api.NodeLabel) {
		return o.labelled(o.l[n].Kids[0])
	}
	return n
}

func (o *oracle) isTwin(n int) bool {
	for _, k := range o.order {
		if k == n {
			return false
		}
		if o.scopeOf(n) >= 0 && o.scopeOf(k) == o.scopeOf(n) && o.l[k].Text == o.l[n].Text {
			return true
		}
	}
	return false
}

func (o *oracle) isTarget(n int) bool {
	up := o.ups[n]
	return o.is(n, api.NodeName) && o.is(up, api.NodePre, api.NodePost, api.NodeAssign, api.NodeForIn, api.NodeForOf) && slices.Index(o.l[up].Kids, n) == 0
}

// all is what All is to tell.
func (o *oracle) all() []told {
	var out []told
	for _, n := range o.order {
		for rule := 1; rule <= 9; rule++ {
			if o.tells(rule, n) {
				out = append(out, told{rule, n})
				break
			}
		}
	}
	return out
}
