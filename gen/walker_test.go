package gen_test

import (
	"slices"

	"lintel/api"
	"lintel/units"
)

// variable is a name that a scope has.
type variable struct {
	value any // the hole: its declaration was not come to
	kind  int // api.BindLet ..
}

// env is a scope with the one about it.
type env struct {
	*env
	names map[string]*variable
}

func (e *env) within() *env { return &env{e, make(map[string]*variable)} }

func (e *env) add(name string, kind int, v any) { e.names[name] = &variable{v, kind} }

// find is the nearest variable of that name; nil: none.
func (e *env) find(name string) *variable {
	for ; e != nil; e = e.env {
		if v := e.names[name]; v != nil {
			return v
		}
	}
	return nil
}

// way is how a statement ended: 0, or the node's kind of a break, continue, return.
type way struct {
	kind  int
	label string
	value any
}

// walker does what a tree says, as chapter 21.1 has it, without a module.
type walker struct {
	*world
	nodes []api.Node
	outer bool // outside of all functions
	this  any
}

func runTree(l []api.Node, w *world) outcome {
	k := &walker{world: w, nodes: l, outer: true}
	return w.ended(func() {
		e := (*env)(nil).within()
		k.enter(e, l[len(l)-1].Kids)
		k.all(e, l[len(l)-1].Kids)
	})
}

func (k *walker) kids(n int) []int { return k.nodes[n].Kids }

// enter makes the names of statements.
func (k *walker) enter(e *env, statements []int) {
	for _, n := range statements {
		switch node := k.nodes[n]; node.Kind {
		case api.NodeLet, api.NodeConst:
			for _, i := range node.Kids {
				e.add(k.nodes[i].Text, node.Kind-api.NodeLet+api.BindLet, hole{})
			}
		case api.NodeFun:
			e.add(node.Text, api.BindFun, k.function(e, n))
		}
	}
}

func (k *walker) all(e *env, l []int) way {
	for _, n := range l {
		if w := k.statement(e, n, nil); w.kind != 0 {
			return w
		}
	}
	return way{}
}

func (k *walker) statement(e *env, n int, labels []string) way {
	k.step()
	node := k.nodes[n]
	switch node.Kind {
	case api.NodeBlock:
		inner := e.within()
		k.enter(inner, node.Kids)
		return k.all(inner, node.Kids)
	case api.NodeLet, api.NodeConst:
		k.declare(e, node.Kids)
	case api.NodeExpr:
		v := k.eval(e, node.Kids[0])
		if k.outer {
			k.value = v
		}
	case api.NodeIf:
		if truthy(k.eval(e, node.Kids[0])) {
			return k.statement(e, node.Kids[1], nil)
		} else if len(node.Kids) > 2 {
			return k.statement(e, node.Kids[2], nil)
		}
	case api.NodeBreak, api.NodeContinue:
		return way{kind: node.Kind, label: node.Text}
	case api.NodeReturn:
		w := way{kind: node.Kind}
		if len(node.Kids) > 0 {
			w.value = k.eval(e, node.Kids[0])
		}
		return w
	case api.NodeThrow:
		panic(thrown{k.eval(e, node.Kids[0])})
	case api.NodeTry:
		return k.try(e, n)
	case api.NodeSwitch:
		return k.choose(e, n)
	case api.NodeLabel:
		w := k.statement(e, node.Kids[0], append(slices.Clone(labels), node.Text))
		if w.kind == api.NodeBreak && w.label == node.Text {
			return way{}
		}
		return w
	}
	return k.loop(e, n, labels)
}

func (k *walker) declare(e *env, inits []int) {
	for _, n := range inits {
		k.step()
		node := k.nodes[n]
		var v any
		if len(node.Kids) > 0 {
			v = k.eval(e, node.Kids[0])
		}
		e.names[node.Text].value = v
	}
}

// turn does a loop's body once: whether the loop goes on, and how it is left.
func (k *walker) turn(e *env, body int, labels []string) (bool, way) {
	w := k.statement(e, body, nil)
	switch {
	case w.kind == 0, w.kind == api.NodeContinue && (w.label == "" || slices.Contains(labels, w.label)):
		return true, way{}
	case w.kind == api.NodeBreak && w.label == "":
		return false, way{}
	}
	return false, w
}

func (k *walker) loop(e *env, n int, labels []string) way {
	kids := k.kids(n)
	switch k.nodes[n].Kind {
	case api.NodeWhile:
		for truthy(k.eval(e, kids[0])) {
			if on, w := k.turn(e, kids[1], labels); !on {
				return w
			}
		}
	case api.NodeDo:
		for {
			if on, w := k.turn(e, kids[0], labels); !on {
				return w
			}
			if !truthy(k.eval(e, kids[1])) {
				return way{}
			}
		}
	case api.NodeFor:
		return k.loopFor(e, kids, labels)
	case api.NodeForIn:
		each := enumerate(k.eval(k.dead(e, kids[0]), kids[1]))
		for key, ok := each.step(); ok; key, ok = each.step() {
			if on, w := k.turn(k.alive(e, kids[0], key), kids[2], labels); !on {
				return w
			}
		}
	case api.NodeForOf:
		return k.loopOf(e, kids, labels)
	}
	return way{}
}

func (k *walker) loopFor(e *env, kids []int, labels []string) way {
	e = e.within()
	k.enter(e, kids[:1])
	switch first := k.nodes[kids[0]]; first.Kind {
	case api.NodeNone:
	case api.NodeLet, api.NodeConst:
		k.step()
		k.declare(e, first.Kids)
	default:
		k.eval(e, kids[0])
	}
	for e = e.copied(); ; {
		if k.nodes[kids[1]].Kind != api.NodeNone && !truthy(k.eval(e, kids[1])) {
			return way{}
		}
		if on, w := k.turn(e, kids[3], labels); !on {
			return w
		}
		e = e.copied()
		if k.nodes[kids[2]].Kind != api.NodeNone {
			k.eval(e, kids[2])
		}
	}
}

// copied is a scope with the same names and values, of which lets are new.
func (e *env) copied() *env {
	out := e.env.within()
	for name, v := range e.names {
		if out.names[name] = v; v.kind == api.BindLet {
			out.add(name, v.kind, v.value)
		}
	}
	return out
}

// dead is the scope in which a for in or of looks for what it goes over: its own name is not there yet.
func (k *walker) dead(e *env, n int) *env {
	inner := e.within()
	k.enter(inner, []int{n})
	return inner
}

// alive is the scope of a turn.
func (k *walker) alive(e *env, n int, v any) *env {
	inner := e.within()
	if k.nodes[n].Kind == api.NodeName {
		k.step()
		k.setName(e, n, v)
	} else {
		k.enter(inner, []int{n})
		inner.names[k.nodes[k.kids(n)[0]].Text].value = v
	}
	return inner
}

func (k *walker) loopOf(e *env, kids []int, labels []string) way {
	it, next := k.open(k.eval(k.dead(e, kids[0]), kids[1]))
	for v, ok := k.stepOn(it, next); ok; v, ok = k.stepOn(it, next) {
		on, w := false, way{}
		func() {
			fine := false
			defer func() {
				if !fine {
					if t := recover(); t != nil {
						if _, ok := t.(thrown); ok {
							quietly(func() { k.closeIterator(it) })
						}
						panic(t)
					}
				}
			}()
			on, w = k.turn(k.alive(e, kids[0], v), kids[2], labels)
			fine = true
		}()
		if !on {
			k.closeIterator(it)
			return w
		}
	}
	return way{}
}

func (k *walker) try(e *env, n int) (w way) {
	kids := k.kids(n)
	block := func() (w way) {
		if k.nodes[kids[1]].Kind == api.NodeNone {
			return k.statement(e, kids[0], nil)
		}
		t, w := k.attempt(func() way { return k.statement(e, kids[0], nil) })
		if t == nil {
			return w
		}
		inner := e.within()
		inner.add(k.nodes[n].Text, api.BindCatch, t.value)
		k.step()
		k.enter(inner, k.kids(kids[1]))
		return k.all(inner, k.kids(kids[1]))
	}
	if k.nodes[kids[2]].Kind == api.NodeNone {
		return block()
	}
	t, w := k.attempt(block)
	if last := k.statement(e, kids[2], nil); last.kind != 0 {
		return last
	}
	if t != nil {
		panic(*t)
	}
	return w
}

// attempt does something: how it ended, or what it threw.
func (k *walker) attempt(do func() way) (t *thrown, w way) {
	defer func() {
		if p := recover(); p != nil {
			caught, ok := p.(thrown)
			if !ok {
				panic(p)
			}
			t = &caught
		}
	}()
	return nil, do()
}

func (k *walker) choose(e *env, n int) way {
	kids := k.kids(n)
	v := k.eval(e, kids[0])
	inner := e.within()
	var all, begins []int
	first, other := -1, -1
	for _, c := range kids[1:] {
		begins = append(begins, len(all))
		if k.nodes[c].Kind == api.NodeCase {
			all = append(all, k.kids(c)[1:]...)
		} else {
			other = len(all)
			all = append(all, k.kids(c)...)
		}
	}
	k.enter(inner, all)
	for i, c := range kids[1:] {
		if k.nodes[c].Kind == api.NodeCase && same(v, k.eval(inner, k.kids(c)[0])) {
			first = begins[i]
			break
		}
	}
	if first < 0 {
		first = other
	}
	if first < 0 {
		return way{}
	}
	w := k.all(inner, all[first:])
	if w.kind == api.NodeBreak && w.label == "" {
		return way{}
	}
	return w
}

// function is a function object of node n.
func (k *walker) function(e *env, n int) *object {
	node := k.nodes[n]
	params := k.kids(node.Kids[0])
	count := 0
	for _, p := range params {
		if k.nodes[p].Kind == api.NodeName {
			count++
		}
	}
	outer := k.this
	return k.world.function(node.Text, count, node.Kind == api.NodeArrow, func(this any, callee *object, args []any) any {
		inner := e.within()
		if node.Kind == api.NodeFunc && node.Text != "" {
			inner.add(node.Text, api.BindSelf, callee)
			inner = inner.within()
		}
		if node.Kind == api.NodeArrow {
			this = outer
		}
		for i, p := range params {
			var v any
			if k.nodes[p].Kind == api.NodeRest {
				v = k.list(args[min(i, len(args)):]...)
			} else if i < len(args) {
				v = args[i]
			}
			inner.add(k.nodes[p].Text, api.BindParam, v)
		}
		in := &walker{world: k.world, nodes: k.nodes, this: this}
		if k.nodes[node.Kids[1]].Kind != api.NodeBlock {
			return in.eval(inner, node.Kids[1])
		}
		in.enter(inner, k.kids(node.Kids[1]))
		return in.all(inner, k.kids(node.Kids[1])).value
	})
}

func (k *walker) getName(e *env, n int, quiet bool) any {
	name := k.nodes[n].Text
	if v := e.find(name); v != nil {
		if v.value == any(hole{}) {
			k.fail("ReferenceError")
		}
		return v.value
	}
	if p := k.globals[name]; p != nil {
		return p.value
	}
	if !quiet {
		k.fail("ReferenceError")
	}
	return nil
}

func (k *walker) setName(e *env, n int, x any) {
	v := e.find(k.nodes[n].Text)
	if v == nil {
		k.assign(k.nodes[n].Text, x)
		return
	}
	if v.value == any(hole{}) {
		k.fail("ReferenceError")
	}
	k.must(v.kind != api.BindConst && v.kind != api.BindSelf)
	v.value = x
}

func (k *walker) eval(e *env, n int) any {
	k.step()
	node := k.nodes[n]
	switch node.Kind {
	case api.NodeNum:
		return node.Num
	case api.NodeStr:
		return units.Text(node.Str)
	case api.NodeTrue, api.NodeFalse:
		return node.Kind == api.NodeTrue
	case api.NodeNull:
		return null{}
	case api.NodeThis:
		return k.this
	case api.NodeName:
		return k.getName(e, n, false)
	case api.NodeFunc, api.NodeArrow:
		return k.function(e, n)
	case api.NodeArray:
		return k.list(k.values(e, node.Kids)...)
	case api.NodeObject:
		return k.literal(e, node.Kids)
	case api.NodeCall:
		return k.evalCall(e, node.Kids)
	case api.NodeNew:
		f := k.eval(e, node.Kids[0])
		return k.build(f, k.values(e, node.Kids[1:]))
	case api.NodeDot, api.NodeIndex:
		get, _ := k.reference(e, n)
		return get()
	case api.NodeUnary:
		return k.evalUnary(e, node)
	}
	return k.evalMore(e, node)
}

func (k *walker) evalMore(e *env, node api.Node) any {
	kids := node.Kids
	switch node.Kind {
	case api.NodePre, api.NodePost:
		get, set := k.reference(e, kids[0])
		was := k.number(get())
		is := k.binary(node.Text[:1], was, 1.0)
		set(is)
		if node.Kind == api.NodePre {
			return is
		}
		return was
	case api.NodeBinary:
		a := k.eval(e, kids[0])
		return k.binary(node.Text, a, k.eval(e, kids[1]))
	case api.NodeAnd, api.NodeOr:
		v := k.eval(e, kids[0])
		if truthy(v) != (node.Kind == api.NodeAnd) {
			return v
		}
		return k.eval(e, kids[1])
	case api.NodeCond:
		if truthy(k.eval(e, kids[0])) {
			return k.eval(e, kids[1])
		}
		return k.eval(e, kids[2])
	case api.NodeAssign:
		get, set := k.reference(e, kids[0])
		if node.Text == "=" {
			v := k.eval(e, kids[1])
			set(v)
			return v
		}
		was := get()
		v := k.binary(node.Text[:len(node.Text)-1], was, k.eval(e, kids[1]))
		set(v)
		return v
	case api.NodeSeq:
		for _, x := range kids[:len(kids)-1] {
			k.eval(e, x)
		}
		return k.eval(e, kids[len(kids)-1])
	}
	var texts []string // a template's
	for i, x := range kids {
		if i%2 == 0 {
			texts = append(texts, units.Text(k.nodes[x].Str))
		} else {
			texts = append(texts, k.text(k.eval(e, x)))
		}
	}
	out := ""
	for _, t := range texts {
		out = k.joined(out, t)
	}
	return out
}

func (k *walker) values(e *env, l []int) []any {
	var out []any
	for _, n := range l {
		if k.nodes[n].Kind != api.NodeSpread {
			out = append(out, k.eval(e, n))
			continue
		}
		it, next := k.open(k.eval(e, k.kids(n)[0]))
		for v, ok := k.stepOn(it, next); ok; v, ok = k.stepOn(it, next) {
			k.step()
			out = append(out, v)
		}
	}
	if len(out) > api.MaxArgs {
		panic(stop{})
	}
	return out
}

func (k *walker) keyOf(e *env, n int) any {
	if k.nodes[n].Kind == api.NodeComputed {
		n = k.kids(n)[0]
	}
	return k.key(k.eval(e, n))
}

func (k *walker) literal(e *env, l []int) any {
	o := k.object()
	for _, n := range l {
		k.step()
		key := k.keyOf(e, k.kids(n)[0])
		v := k.eval(e, k.kids(n)[1])
		switch k.nodes[n].Kind {
		case api.NodeProp:
			o.put(key, v)
		default:
			o.accessor(key, v, k.nodes[n].Kind == api.NodeSetter)
		}
	}
	return o
}

// reference is how a target is got and set.
func (k *walker) reference(e *env, n int) (get func() any, set func(any)) {
	node := k.nodes[n]
	if node.Kind == api.NodeName {
		return func() any { return k.getName(e, n, false) }, func(v any) { k.setName(e, n, v) }
	}
	o, key := k.eval(e, node.Kids[0]), any(node.Text)
	if node.Kind == api.NodeIndex {
		key = k.keyOf(e, node.Kids[1])
	}
	return func() any { return k.get(o, key) }, func(v any) { k.set(o, key, v) }
}

func (k *walker) evalCall(e *env, kids []int) any {
	var f, this any
	switch callee := k.nodes[kids[0]]; callee.Kind {
	case api.NodeDot:
		this = k.eval(e, callee.Kids[0])
		f = k.get(this, callee.Text)
	case api.NodeIndex:
		this = k.eval(e, callee.Kids[0])
		f = k.get(this, k.keyOf(e, callee.Kids[1]))
	default:
		f = k.eval(e, kids[0])
	}
	return k.call(f, this, k.values(e, kids[1:])...)
}

func (k *walker) evalUnary(e *env, node api.Node) any {
	of := node.Kids[0]
	switch kind := k.nodes[of].Kind; {
	case node.Text == "typeof" && kind == api.NodeName:
		return typeOf(k.getName(e, of, true))
	case node.Text == "delete" && kind == api.NodeDot:
		return k.remove(k.eval(e, k.kids(of)[0]), k.nodes[of].Text)
	case node.Text == "delete" && kind == api.NodeIndex:
		o := k.eval(e, k.kids(of)[0])
		return k.remove(o, k.keyOf(e, k.kids(of)[1]))
	}
	v := k.eval(e, of)
	switch node.Text {
	case "delete":
		return true
	case "void":
		return nil
	}
	return k.unary(node.Text, v)
}
