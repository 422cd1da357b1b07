package gen

import (
	"cmp"
	"slices"

	"lintel/api"
	"lintel/scope"
	"lintel/tree"
)

// leastCapture is how many bytes a capture takes at least where a module is written as bytes.
const leastCapture = 2

// plan is a tree with all that is asked of it while its functions are written.
type plan struct {
	nodes     []api.Node
	bindings  []api.Binding
	uses      []api.Use
	bound     []int         // by nodes: the binding that it makes; -1: none
	meant     []int         // by nodes: the use that it is; -1: none
	asked     []bool        // by bindings: whether some use asks for it
	used      []bool        // by bindings: whether there is a use of it
	own       map[int][]int // by nodes: the bindings that are made when its scope is entered
	about     []int         // by nodes: the function about it
	functions []int         // the functions' nodes by their numbers, the script's first
	numbers   []int         // by nodes of functions: their numbers
	takes     [][]int       // by functions' numbers: the bindings that its closures take, rising
	registers []int         // by bindings: the register that it has in its function

	operators   map[string]int
	expressions map[int]func(*maker, int, int)
	statements  map[int]func(*maker, int)

	// By nodes: whether doing it may give a name of the function in which it stands another value.
	// (A name that some other function changes has a cell, and no register of its own.)
	changes []bool
}

// newPlan is the plan of a tree that breaks no rule.
func newPlan(l []api.Node) *plan {
	p := &plan{nodes: l, changes: changesOf(l), expressions: expressions(), statements: statements(), operators: make(map[string]int)}
	for i, sign := range tree.Operators(api.NodeBinary) {
		p.operators[sign] = api.OpBinary + i
	}
	p.bindings, _ = scope.Bindings(l)
	p.uses, _ = scope.Uses(l)
	p.findFunctions()
	p.bind()
	p.mean()
	p.capture()
	return p
}

func changesOf(l []api.Node) []bool {
	out := make([]bool, len(l))
	for n, node := range l {
		if isFunction(node.Kind) {
			continue
		}
		out[n] = setsName(l, node)
		for _, k := range node.Kids {
			out[n] = out[n] || out[k]
		}
	}
	return out
}

// setsName says whether a node gives a name another value.
func setsName(l []api.Node, node api.Node) bool {
	switch node.Kind {
	case api.NodeAssign, api.NodePre, api.NodePost:
		return l[node.Kids[0]].Kind == api.NodeName
	}
	return false
}

func isFunction(kind int) bool {
	return kind == api.NodeFunc || kind == api.NodeArrow || kind == api.NodeFun
}

// findFunctions numbers the functions, and says of each node in which it stands.
func (p *plan) findFunctions() {
	p.numbers, p.about = make([]int, len(p.nodes)), make([]int, len(p.nodes))
	for n := range tree.Walk(p.nodes) {
		node := p.nodes[n]
		in := p.about[n]
		if isFunction(node.Kind) || node.Kind == api.NodeScript {
			in, p.numbers[n] = n, len(p.functions)
			p.functions = append(p.functions, n)
		}
		for _, k := range node.Kids {
			p.about[k] = in
		}
	}
	hold(len(p.functions) <= api.MaxFns)
}

// bind says which bindings nodes make.
func (p *plan) bind() {
	p.bound = slices.Repeat([]int{-1}, len(p.nodes))
	p.own = make(map[int][]int)
	for b, binding := range p.bindings {
		p.bound[binding.Node] = b
		switch binding.Kind {
		case api.BindLet, api.BindConst, api.BindFun:
			p.own[binding.Scope] = append(p.own[binding.Scope], b)
		}
	}
	p.registers = make([]int, len(p.bindings))
}

// mean says which uses nodes are, and what is asked of the bindings.
func (p *plan) mean() {
	p.meant = slices.Repeat([]int{-1}, len(p.nodes))
	p.asked, p.used = make([]bool, len(p.bindings)), make([]bool, len(p.bindings))
	for i, u := range p.uses {
		p.meant[u.Node] = i
		if u.Bind >= 0 {
			p.used[u.Bind] = true
			p.asked[u.Bind] = p.asked[u.Bind] || u.Asks
		}
	}
}

// capture finds what closures take: a use takes its binding through all functions between.
func (p *plan) capture() {
	p.takes = make([][]int, len(p.functions))
	last := slices.Repeat([]int{-1}, len(p.functions)) // by functions: the binding that it took last
	total := 0
	for _, u := range p.usesByBindings() {
		for fn := u.Func; fn != p.bindings[u.Bind].Func; fn = p.about[fn] {
			number := p.numbers[fn]
			if last[number] == u.Bind {
				break // and so have all that are about it
			}
			last[number] = u.Bind
			p.takes[number] = append(p.takes[number], u.Bind)
			// Thrown at once: there might be far more than memory has room for.
			total++
			hold(total <= api.MaxCode/leastCapture)
		}
	}
}

// usesByBindings is the uses of bindings, in the bindings' order.
func (p *plan) usesByBindings() []api.Use {
	bound := slices.DeleteFunc(slices.Clone(p.uses), func(u api.Use) bool { return u.Bind < 0 })
	slices.SortStableFunc(bound, func(a, b api.Use) int { return cmp.Compare(a.Bind, b.Bind) })
	return bound
}
