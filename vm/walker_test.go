package vm_test

import (
	"slices"

	"lintel/api"
	"lintel/conv"
	"lintel/units"
)

// scope is names with the scope about them.
type scope struct {
	*scope
	names map[string]*variable
}

func (s *scope) within() *scope { return &scope{s, make(map[string]*variable)} }

func (s *scope) find(name string) *variable {
	for ; s != nil; s = s.scope {
		if v := s.names[name]; v != nil {
			return v
		}
	}
	return nil
}

func (s *scope) add(name string, kind int, v api.Value) {
	s.names[name] = &variable{value: v, kind: kind}
}

// turned is a scope with names that are new, with the same values.
func (s *scope) turned() *scope {
	out := s.scope.within()
	for name, v := range s.names {
		if out.names[name] = v; v.kind == api.BindLet {
			out.add(name, v.kind, v.value)
		}
	}
	return out
}

// way is how a statement ended: by which kind of jump, 0: none.
type way struct {
	kind  int
	label string
	value api.Value
}

func (w way) isBreak() bool { return w.kind == api.NodeBreak && w.label == "" }

// walker does a function's or the script's part of a tree.
type walker struct {
	*realm
	nodes    []api.Node
	function bool
	this     api.Value
}

// walked is a walk's outcome: EndLimit, if it came to an end before the tree did.
func (r *realm) walked(l []api.Node) (o api.Outcome) {
	defer func() {
		o.Trace = r.trace
		switch t := recover().(type) {
		case nil:
		case caught:
			o.End, o.Value = api.EndThrow, r.shown(t.value)
		case ended:
			o.End = api.EndLimit
		default:
			panic(t)
		}
	}()
	k := &walker{realm: r, nodes: l}
	s := (*scope)(nil).within()
	script := l[len(l)-1].Kids
	k.declare(s, script)
	k.statements(s, script)
	o.Value = r.shown(r.value)
	return o
}

// declare makes the names of statements.
func (k *walker) declare(s *scope, l []int) {
	for _, n := range l {
		if node := k.nodes[n]; node.Kind == api.NodeLet || node.Kind == api.NodeConst {
			for _, i := range node.Kids {
				s.names[k.nodes[i].Text] = &variable{kind: node.Kind - api.NodeLet + api.BindLet, dead: true}
			}
		}
	}
	for _, n := range l {
		if node := k.nodes[n]; node.Kind == api.NodeFun {
			s.add(node.Text, api.BindFun, k.closure(s, n))
		}
	}
}

func (k *walker) statements(s *scope, l []int) way {
	for _, n := range l {
		if w := k.statement(s, n); w.kind != 0 {
			return w
		}
	}
	return way{}
}

func (k *walker) block(s *scope, l []int) way {
	k.declare(s, l)
	return k.statements(s, l)
}

func (k *walker) statement(s *scope, n int, labels ...string) way {
	k.step()
	node := k.nodes[n]
	kids := node.Kids
	switch node.Kind {
	case api.NodeBlock:
		return k.block(s.within(), kids)
	case api.NodeLet, api.NodeConst:
		for _, i := range kids {
			k.step()
			k.begin(s, i, k.optional(s, k.nodes[i].Kids))
		}
	case api.NodeExpr:
		if v := k.value1(s, kids[0]); !k.function {
			k.realm.value = v
		}
	case api.NodeIf:
		if conv.Truthy(k.value1(s, kids[0])) {
			return k.statement(s, kids[1])
		}
		return k.statements(s, kids[2:])
	case api.NodeFor:
		return k.loop(s, kids, labels)
	case api.NodeForIn, api.NodeForOf:
		return k.each(s, n, labels)
	case api.NodeWhile:
		for conv.Truthy(k.value1(s, kids[0])) {
			if w, on := k.turn(s, kids[1], labels); !on {
				return w
			}
		}
	case api.NodeDo:
		for {
			if w, on := k.turn(s, kids[0], labels); !on {
				return w
			}
			if !conv.Truthy(k.value1(s, kids[1])) {
				return way{}
			}
		}
	case api.NodeBreak, api.NodeContinue:
		return way{kind: node.Kind, label: node.Text}
	case api.NodeReturn:
		return way{kind: node.Kind, value: k.optional(s, kids)}
	case api.NodeThrow:
		panic(caught{k.value1(s, kids[0])})
	case api.NodeTry:
		return k.try(s, node)
	case api.NodeSwitch:
		return k.choose(s, kids)
	case api.NodeLabel:
		w := k.statement(s, kids[0], append(slices.Clone(labels), node.Text)...)
		if w.kind == api.NodeBreak && w.label == node.Text {
			return way{}
		}
		return w
	}
	return way{}
}

// optional is the value of an expression, if there is one.
func (k *walker) optional(s *scope, kids []int) (v api.Value) {
	for _, n := range kids {
		v = k.value1(s, n)
	}
	return v
}

// begin gives a name its first value.
func (k *walker) begin(s *scope, n int, v api.Value) {
	x := s.names[k.nodes[n].Text]
	x.value, x.dead = v, false
}

// turn does a loop's body, and says whether the loop goes on.
func (k *walker) turn(s *scope, body int, labels []string) (way, bool) {
	w := k.statement(s, body)
	switch {
	case w.kind == 0, w.kind == api.NodeContinue && (w.label == "" || slices.Contains(labels, w.label)):
		return way{}, true
	case w.isBreak():
		return way{}, false
	}
	return w, false
}

func (k *walker) loop(s *scope, kids []int, labels []string) way {
	s = s.within()
	switch k.nodes[kids[0]].Kind {
	case api.NodeNone:
	case api.NodeLet, api.NodeConst:
		k.block(s, kids[:1])
	default:
		k.value1(s, kids[0])
	}
	for s = s.turned(); k.nodes[kids[1]].Kind == api.NodeNone || conv.Truthy(k.value1(s, kids[1])); {
		if w, on := k.turn(s, kids[3], labels); !on {
			return w
		}
		s = s.turned()
		if k.nodes[kids[2]].Kind != api.NodeNone {
			k.value1(s, kids[2])
		}
	}
	return way{}
}

func (k *walker) each(s *scope, n int, labels []string) way {
	head, over, body := k.nodes[n].Kids[0], k.nodes[n].Kids[1], k.nodes[n].Kids[2]
	dead := s.within()
	k.declare(dead, []int{head})
	v := k.value1(dead, over)
	turn := func(v api.Value) (way, bool) {
		k.step()
		inner := s.within()
		if k.nodes[head].Kind == api.NodeName {
			k.setName(s, k.nodes[head].Text, v)
		} else {
			k.declare(inner, []int{head})
			k.begin(inner, k.nodes[head].Kids[0], v)
		}
		return k.turn(inner, body, labels)
	}
	if k.nodes[n].Kind == api.NodeForOf {
		return k.eachOf(v, turn)
	}
	next := k.enumerate(v)
	for x, is := next(); is; x, is = next() {
		if w, on := turn(api.Value{Kind: api.Text, Str: x.Name}); !on {
			return w
		}
	}
	return way{}
}

func (k *walker) eachOf(v api.Value, turn func(api.Value) (way, bool)) way {
	it, next := k.open(v)
	for x, is := k.advance(it, next); is; x, is = k.advance(it, next) {
		var w way
		var on bool
		if t := k.catching(func() { w, on = turn(x) }); t != nil {
			k.catching(func() { k.close(it) })
			panic(*t)
		}
		if !on {
			k.close(it)
			return w
		}
	}
	return way{}
}

// catching does something, and answers what it has thrown.
func (k *walker) catching(do func()) (t *caught) {
	calls := k.calls
	defer func() {
		switch p := recover().(type) {
		case nil:
		case caught:
			t, k.calls = &p, calls
		default:
			panic(p)
		}
	}()
	do()
	return nil
}

func (k *walker) try(s *scope, node api.Node) (w way) {
	block, handler, last := node.Kids[0], node.Kids[1], node.Kids[2]
	t := k.catching(func() { w = k.statement(s, block) })
	if t != nil && k.nodes[handler].Kind != api.NodeNone {
		inner := s.within()
		inner.add(node.Text, api.BindCatch, t.value)
		t = k.catching(func() { w = k.block(inner, k.nodes[handler].Kids) })
	}
	if k.nodes[last].Kind != api.NodeNone {
		if way := k.statement(s, last); way.kind != 0 {
			return way
		}
	}
	if t != nil {
		panic(*t)
	}
	return w
}

func (k *walker) choose(s *scope, kids []int) way {
	v := k.value1(s, kids[0])
	s = s.within()
	clause := func(n int) []int {
		if k.nodes[n].Kind == api.NodeCase {
			return k.nodes[n].Kids[1:]
		}
		return k.nodes[n].Kids
	}
	for _, n := range kids[1:] {
		k.declare(s, clause(n))
	}
	from := -1
	for i, n := range kids[1:] {
		if k.nodes[n].Kind == api.NodeCase && conv.Same(v, k.value1(s, k.nodes[n].Kids[0]), api.SameStrict) {
			from = i
			break
		}
	}
	if from < 0 {
		from = slices.IndexFunc(kids[1:], func(n int) bool { return k.nodes[n].Kind == api.NodeDefault })
	}
	if from < 0 {
		return way{}
	}
	for _, n := range kids[1:][from:] {
		if w := k.statements(s, clause(n)); w.kind != 0 {
			if w.isBreak() {
				return way{}
			}
			return w
		}
	}
	return way{}
}

// closure is a function of a node.
func (k *walker) closure(s *scope, n int) api.Value {
	node := k.nodes[n]
	params, body := k.nodes[node.Kids[0]].Kids, node.Kids[1]
	length := len(params)
	if length > 0 && k.nodes[params[length-1]].Kind == api.NodeRest {
		length--
	}
	do := func(this, self api.Value, args []api.Value) api.Value {
		inner := s.within()
		if node.Kind == api.NodeFunc && node.Text != "" {
			inner.add(node.Text, api.BindSelf, self)
			inner = inner.within()
		}
		in := &walker{realm: k.realm, nodes: k.nodes, function: true, this: this}
		if node.Kind == api.NodeArrow {
			in.this = k.this
		}
		for i, p := range params {
			var v api.Value
			if i < len(args) {
				v = args[i]
			}
			if i == length {
				v = k.list(args[min(i, len(args)):])
			}
			inner.add(k.nodes[p].Text, api.BindParam, v)
		}
		if k.nodes[body].Kind != api.NodeBlock {
			return in.value1(inner, body)
		}
		return in.block(inner, k.nodes[body].Kids).value
	}
	if node.Kind == api.NodeArrow {
		return k.newFunction(node.Text, length, &callee{call: do})
	}
	f, proto := k.newFunction(node.Text, length, &callee{do, do}), k.make(api.ClassObject, k.objects)
	k.put(f, key("prototype"), proto, api.Writable)
	k.put(proto, key("constructor"), f, api.Writable|api.Configurable)
	return f
}

func (k *walker) getName(s *scope, name string) api.Value {
	v := s.find(name)
	if v == nil {
		v = k.globals[name]
	}
	if v == nil || v.dead {
		k.fail("ReferenceError")
	}
	return v.value
}

func (k *walker) setName(s *scope, name string, x api.Value) {
	v := s.find(name)
	if v == nil {
		v = k.globals[name]
	}
	if v == nil || v.dead {
		k.fail("ReferenceError")
	}
	k.must(v.kind != api.BindConst && v.kind != api.BindSelf)
	v.value = x
}

// value1 is the value of an expression.
func (k *walker) value1(s *scope, n int) api.Value {
	k.step()
	node := k.nodes[n]
	kids := node.Kids
	switch node.Kind {
	case api.NodeNum:
		return num(node.Num)
	case api.NodeStr:
		return api.Value{Kind: api.Text, Str: node.Str}
	case api.NodeTrue, api.NodeFalse:
		return yes(node.Kind == api.NodeTrue)
	case api.NodeNull:
		return api.Value{Kind: api.Null}
	case api.NodeName:
		return k.getName(s, node.Text)
	case api.NodeThis:
		return k.this
	case api.NodeArray:
		return k.list(k.values(s, kids))
	case api.NodeObject:
		return k.literal(s, kids)
	case api.NodeFunc, api.NodeArrow:
		return k.closure(s, n)
	case api.NodeCall:
		return k.callOf(s, kids)
	case api.NodeNew:
		f := k.value1(s, kids[0])
		return k.build(f, k.values(s, kids[1:]))
	case api.NodeDot, api.NodeIndex:
		get, _ := k.target(s, n)
		return get()
	case api.NodeUnary:
		return k.unaryOf(s, node)
	case api.NodeTemplate:
		return k.template(s, kids)
	}
	return k.combined(s, node)
}

func (k *walker) combined(s *scope, node api.Node) (v api.Value) {
	kids := node.Kids
	switch node.Kind {
	case api.NodePre, api.NodePost:
		get, set := k.target(s, kids[0])
		was := num(k.number(get()))
		v = k.binary(node.Text[:1], was, num(1))
		set(v)
		if node.Kind == api.NodePost {
			return was
		}
	case api.NodeBinary:
		a := k.value1(s, kids[0])
		v = k.binary(node.Text, a, k.value1(s, kids[1]))
	case api.NodeAnd, api.NodeOr:
		if v = k.value1(s, kids[0]); conv.Truthy(v) == (node.Kind == api.NodeAnd) {
			v = k.value1(s, kids[1])
		}
	case api.NodeCond:
		if conv.Truthy(k.value1(s, kids[0])) {
			return k.value1(s, kids[1])
		}
		v = k.value1(s, kids[2])
	case api.NodeAssign:
		get, set := k.target(s, kids[0])
		if node.Text == "=" {
			v = k.value1(s, kids[1])
		} else {
			was := get()
			v = k.binary(node.Text[:len(node.Text)-1], was, k.value1(s, kids[1]))
		}
		set(v)
	case api.NodeSeq:
		v = k.optional(s, kids)
	}
	return v
}

func (k *walker) template(s *scope, kids []int) api.Value {
	var texts []api.Str
	for i, n := range kids {
		if i%2 == 0 {
			texts = append(texts, k.nodes[n].Str)
		} else {
			texts = append(texts, k.text(k.value1(s, n)))
		}
	}
	out, e := units.Join(texts...)
	if e != api.OK {
		panic(ended{})
	}
	return api.Value{Kind: api.Text, Str: out}
}

func (k *walker) values(s *scope, l []int) []api.Value {
	var out []api.Value
	for _, n := range l {
		if k.nodes[n].Kind != api.NodeSpread {
			out = append(out, k.value1(s, n))
			continue
		}
		it, next := k.open(k.value1(s, k.nodes[n].Kids[0]))
		for v, is := k.advance(it, next); is; v, is = k.advance(it, next) {
			out = append(out, v)
		}
	}
	return out
}

func (k *walker) keyOf(s *scope, n int) api.Key {
	if k.nodes[n].Kind == api.NodeComputed {
		n = k.nodes[n].Kids[0]
	}
	return k.key(k.value1(s, n))
}

func (k *walker) literal(s *scope, l []int) api.Value {
	o := k.make(api.ClassObject, k.objects)
	for _, n := range l {
		k.step()
		name := k.keyOf(s, k.nodes[n].Kids[0])
		v := k.value1(s, k.nodes[n].Kids[1])
		d := api.Desc{Has: api.HasEnumerable | api.HasConfigurable, Prop: api.Prop{Get: v, Set: v, Flags: api.Enumerable | api.Configurable}}
		switch k.nodes[n].Kind {
		case api.NodeProp:
			k.create(o, name, v)
		case api.NodeGetter:
			d.Has |= api.HasGet
			k.define(o, name, d)
		case api.NodeSetter:
			d.Has |= api.HasSet
			k.define(o, name, d)
		}
	}
	return o
}

// target is how a name or property is got and set.
func (k *walker) target(s *scope, n int) (get func() api.Value, set func(api.Value)) {
	node := k.nodes[n]
	if node.Kind == api.NodeName {
		return func() api.Value { return k.getName(s, node.Text) }, func(v api.Value) { k.setName(s, node.Text, v) }
	}
	o, name := k.property(s, n)
	return func() api.Value { return k.get(o, name) }, func(v api.Value) { k.set(o, name, v) }
}

// property is the object and the key of a property.
func (k *walker) property(s *scope, n int) (api.Value, api.Key) {
	node := k.nodes[n]
	o := k.value1(s, node.Kids[0])
	if node.Kind == api.NodeDot {
		return o, key(node.Text)
	}
	return o, k.keyOf(s, node.Kids[1])
}

func (k *walker) isProperty(n int) bool {
	return k.nodes[n].Kind == api.NodeDot || k.nodes[n].Kind == api.NodeIndex
}

func (k *walker) callOf(s *scope, kids []int) api.Value {
	var f, this api.Value
	if k.isProperty(kids[0]) {
		o, name := k.property(s, kids[0])
		f, this = k.get(o, name), o
	} else {
		f = k.value1(s, kids[0])
	}
	return k.call(f, this, k.values(s, kids[1:])...)
}

func (k *walker) unaryOf(s *scope, node api.Node) api.Value {
	of := node.Kids[0]
	switch node.Text {
	case "typeof":
		if name := k.nodes[of]; name.Kind == api.NodeName && s.find(name.Text) == nil && k.globals[name.Text] == nil {
			return str("undefined")
		}
		return str(k.typeOf(k.value1(s, of)))
	case "delete":
		if k.isProperty(of) {
			k.remove(k.property(s, of))
		} else {
			k.value1(s, of)
		}
		return yes(true)
	case "void":
		k.value1(s, of)
		return api.Value{}
	}
	return k.unary(node.Text, k.value1(s, of))
}
