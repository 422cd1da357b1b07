package scope_test

import (
	"slices"

	"lintel/api"
	"lintel/tree"
)

// oracle asks the chapter's words of each node from below: what stands about it.
type oracle struct {
	l     []api.Node
	ups   []int
	order []int // the nodes in Walk's order
}

func newOracle(l []api.Node) *oracle {
	o := &oracle{l: l, ups: tree.Ups(l)}
	for n := range tree.Walk(l) {
		o.order = append(o.order, n)
	}
	return o
}

func (o *oracle) is(n int, kinds ...int) bool { return n >= 0 && slices.Contains(kinds, o.l[n].Kind) }

func (o *oracle) isFunction(n int) bool { return o.is(n, api.NodeFunc, api.NodeArrow, api.NodeFun) }

func (o *oracle) isParam(n int) bool { return o.is(o.ups[n], api.NodeParams) }

// about is what stands about n, from the nearest on.
func (o *oracle) about(n int) []int {
	var out []int
	for n = o.ups[n]; n >= 0; n = o.ups[n] {
		out = append(out, n)
	}
	return out
}

func (o *oracle) isBelow(n, top int) bool { return slices.Contains(o.about(n), top) }

// function is the nearest function about n, else the last node.
func (o *oracle) function(n int) int {
	for _, a := range o.about(n) {
		if o.isFunction(a) {
			return a
		}
	}
	return len(o.l) - 1
}

// kind is of which kind the binding of node n is; 0: it has none.
func (o *oracle) kind(n int) int {
	switch {
	case o.is(n, api.NodeInit) && o.is(o.ups[n], api.NodeLet):
		return api.BindLet
	case o.is(n, api.NodeInit):
		return api.BindConst
	case o.is(n, api.NodeFun):
		return api.BindFun
	case o.is(n, api.NodeName, api.NodeRest) && o.isParam(n):
		return api.BindParam
	case o.is(n, api.NodeTry) && o.l[n].Text != "":
		return api.BindCatch
	case o.is(n, api.NodeFunc) && o.l[n].Text != "":
		return api.BindSelf
	}
	return 0
}

// scope is the node that begins the scope of node n's name.
func (o *oracle) scope(n int) int {
	up := o.ups[n]
	switch o.kind(n) {
	case api.BindSelf:
		return n
	case api.BindCatch:
		return o.l[n].Kids[1]
	case api.BindParam:
		return o.ups[up]
	case api.BindLet, api.BindConst:
		n, up = up, o.ups[up]
	}
	if o.is(up, api.NodeCase, api.NodeDefault) || o.is(up, api.NodeBlock) && o.isFunction(o.ups[up]) {
		return o.ups[up]
	}
	return up
}

// meant is the number of the binding that the name of node n means.
func (o *oracle) meant(n int, bindings []api.Binding) int {
	out, least := -1, 0
	about := o.about(n)
	for i, b := range bindings {
		far := 2 * slices.Index(about, b.Scope)
		if b.Name != o.l[n].Text || far < 0 {
			continue
		}
		if o.is(b.Scope, api.NodeSwitch) {
			if first := o.l[b.Scope].Kids[0]; n == first || o.isBelow(n, first) {
				continue
			}
		}
		if b.Kind == api.BindSelf {
			far++
		}
		if out < 0 || far < least {
			out, least = i, far
		}
	}
	return out
}

func (o *oracle) asks(u api.Use, b api.Binding) bool {
	if b.Kind != api.BindLet && b.Kind != api.BindConst {
		return false
	}
	behind := slices.Index(o.order, u.Node) > slices.Index(o.order, b.Node) && !o.isBelow(u.Node, b.Node)
	if u.Func != b.Func || !behind || o.is(b.Scope, api.NodeSwitch) {
		return true
	}
	if o.is(b.Scope, api.NodeForIn, api.NodeForOf) {
		body := o.l[b.Scope].Kids[2]
		return u.Node != body && !o.isBelow(u.Node, body)
	}
	return false
}

// read is what Bindings and Uses are to answer.
func (o *oracle) read() (bindings []api.Binding, uses []api.Use) {
	for _, n := range o.order {
		if kind := o.kind(n); kind > 0 {
			b := api.Binding{Name: o.l[n].Text, Kind: kind, Node: n, Scope: o.scope(n), Func: o.function(n)}
			if kind == api.BindSelf {
				b.Func = n
			}
			bindings = append(bindings, b)
		}
	}
	for _, n := range o.order {
		if o.is(n, api.NodeName) && !o.isParam(n) {
			u := api.Use{Node: n, Bind: o.meant(n, bindings), Func: o.function(n)}
			if u.Bind >= 0 {
				u.Asks = o.asks(u, bindings[u.Bind])
			}
			uses = append(uses, u)
		}
	}
	for i := range bindings {
		b := &bindings[i]
		b.Taken = slices.ContainsFunc(uses, func(u api.Use) bool { return u.Bind == i && u.Func != b.Func })
		declaration := o.ups[b.Node]
		b.Turns = b.Taken && o.is(b.Node, api.NodeInit) && o.is(declaration, api.NodeLet) && o.is(o.ups[declaration], api.NodeFor)
	}
	return bindings, uses
}

// free is what Free is to answer.
func (o *oracle) free(n int, bindings []api.Binding, uses []api.Use) []int {
	var out []int
	if !o.isFunction(n) {
		return nil
	}
	for i, b := range bindings {
		uses := slices.ContainsFunc(uses, func(u api.Use) bool { return u.Bind == i && o.isBelow(u.Node, n) })
		if uses && o.isBelow(n, b.Func) {
			out = append(out, i)
		}
	}
	return out
}

// globals is what Globals is to answer.
func (o *oracle) globals(uses []api.Use) []string {
	var out []string
	for _, u := range uses {
		if name := o.l[u.Node].Text; u.Bind < 0 && !slices.Contains(out, name) {
			out = append(out, name)
		}
	}
	return out
}
