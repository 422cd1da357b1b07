package vm_test

import (
	"lintel/api"
	"lintel/array"
	"lintel/conv"
	"lintel/digits"
	"lintel/heap"
	"lintel/iterate"
	"lintel/lex"
	"lintel/nums"
	"lintel/object"
	"lintel/ops"
	"lintel/units"
)

// What goes by panics: what a script may catch, and what ends a walk.
type (
	caught struct{ value api.Value }
	ended  struct{} // by a limit
)

// action is what calling or building a function does.
type action func(this, self api.Value, args []api.Value) api.Value

// callee is what a function object has.
type callee struct {
	call, build action // nil: it may not be built
}

// variable is a name's value.
type variable struct {
	value api.Value
	kind  int  // api.BindLet ..; of a global that may not be written api.BindConst
	dead  bool // its declaration has not been come to
}

// realm is what the tests walk trees in: chapter 21.1 over a heap of its own, by calls of the layers below alone. It counts what P21.15 speaks of.
type realm struct {
	heap    *heap.Heap
	callees map[int]*callee
	nexts   map[int]func() (api.Value, bool) // of iterators
	globals map[string]*variable
	trace   []string
	host    []api.Str
	value   api.Value // the script's

	steps, mostSteps  int
	calls, mostCalls  int // within one another, now and at most
	begun             int // cells that were taken when the walk began
	objects, funcs    int // prototypes
	arrays, texts     int
	iterators, errors int
	kinds             map[string]int // prototypes of errors by names
}

const limitCalls = 150

// symbolIterator is the symbol under which iterators stand.
var symbolIterator = api.Value{Kind: api.Symbol, Ref: 1}

func newRealm(steps, cells int, host ...api.Str) *realm {
	r := &realm{heap: heap.New(cells), callees: make(map[int]*callee), nexts: make(map[int]func() (api.Value, bool)), globals: make(map[string]*variable), host: host, mostSteps: steps, kinds: make(map[string]int)}
	r.objects = r.make(api.ClassObject, 0).Ref
	for _, at := range []*int{&r.funcs, &r.arrays, &r.texts, &r.iterators} {
		*at = r.make(api.ClassObject, r.objects).Ref
	}
	for _, name := range []string{"Error", "TypeError", "ReferenceError", "RangeError", "SyntaxError"} {
		r.layError(name)
	}
	r.globals["undefined"] = &variable{kind: api.BindConst}
	r.globals["NaN"] = &variable{value: num(nan()), kind: api.BindConst}
	r.globals["Infinity"] = &variable{value: num(1 / zero()), kind: api.BindConst}
	r.globals["iterator"] = &variable{value: symbolIterator}
	r.layTelling()
	r.layIterators()
	r.begun = r.heap.Used()
	return r
}

func zero() float64 { return 0 }

func nan() float64 { return zero() / zero() }

func num(x float64) api.Value { return api.Value{Kind: api.Number, Num: x} }

func str(s string) api.Value { return api.Value{Kind: api.Text, Str: utf16(s)} }

func obj(o int) api.Value { return api.Value{Kind: api.Object, Ref: o} }

func yes(is bool) api.Value {
	if is {
		return api.Value{Kind: api.Bool, Num: 1}
	}
	return api.Value{Kind: api.Bool}
}

func utf16(s string) api.Str {
	u, _, e := units.Of(s)
	if e != api.OK {
		panic("no UTF-8: " + s)
	}
	return u
}

func key(s string) api.Key { return api.Key{Name: utf16(s)} }

func (r *realm) layTelling() {
	r.globals["print"] = &variable{value: r.library("print", func(_, _ api.Value, args []api.Value) api.Value {
		line := ""
		for i, a := range args {
			if i > 0 {
				line += " "
			}
			line += units.Text(r.text(a))
		}
		r.trace = append(r.trace, line)
		return api.Value{}
	})}
	r.globals["input"] = &variable{value: r.library("input", func(api.Value, api.Value, []api.Value) api.Value {
		if len(r.host) == 0 {
			return api.Value{}
		}
		next := r.host[0]
		r.host = r.host[1:]
		return api.Value{Kind: api.Text, Str: next}
	})}
}

func (r *realm) layError(name string) {
	about := r.objects
	if name != "Error" {
		about = r.kinds["Error"]
	}
	proto := r.make(api.ClassObject, about)
	r.kinds[name] = proto.Ref
	build := func(_, _ api.Value, args []api.Value) api.Value {
		e := r.make(api.ClassError, proto.Ref)
		if len(args) > 0 && args[0].Kind != api.Undefined {
			r.put(e, key("message"), api.Value{Kind: api.Text, Str: r.text(args[0])}, api.Writable|api.Configurable)
		}
		return e
	}
	f := r.newFunction(name, 1, &callee{build, build})
	r.put(f, key("prototype"), proto, 0)
	r.put(proto, key("constructor"), f, api.Writable|api.Configurable)
	r.put(proto, key("name"), str(name), api.Writable|api.Configurable)
	r.put(proto, key("message"), str(""), api.Writable|api.Configurable)
	r.globals[name] = &variable{value: f}
}

func (r *realm) layIterators() {
	const flags = api.Writable | api.Configurable
	symbol := api.Key{Sym: symbolIterator.Ref}
	r.put(obj(r.iterators), key("next"), r.library("next", func(this, _ api.Value, _ []api.Value) api.Value {
		next := r.nexts[this.Ref]
		r.must(this.Kind == api.Object && next != nil)
		v, more := next()
		o := r.make(api.ClassObject, r.objects)
		r.create(o, key("value"), v)
		r.create(o, key("done"), yes(!more))
		return o
	}), flags)
	r.put(obj(r.iterators), symbol, r.library("[Symbol.iterator]", func(this, _ api.Value, _ []api.Value) api.Value { return this }), flags)
	values := r.library("values", r.newIterator)
	r.put(obj(r.arrays), key("values"), values, flags)
	r.put(obj(r.arrays), symbol, values, flags)
	r.put(obj(r.texts), symbol, r.library("[Symbol.iterator]", r.newIterator), flags)
}

// newIterator tells the elements of this, or the code points of a text.
func (r *realm) newIterator(this, _ api.Value, _ []api.Value) api.Value {
	r.must(this.Kind > api.Null)
	o := r.make(api.ClassIterator, r.iterators)
	at, done := 0, false
	r.nexts[o.Ref] = func() (api.Value, bool) {
		if done {
			return api.Value{}, false
		}
		if this.Kind == api.Text {
			for place, point := range units.Points(this.Str) {
				if place == at {
					at += units.Len(units.Point(point))
					return api.Value{Kind: api.Text, Str: units.Point(point)}, true
				}
			}
		} else if i := float64(at); i < nums.Length(r.number(r.get(this, key("length")))) {
			at = int(i) + 1
			return r.get(this, api.Key{Name: digits.Show(i)}), true
		}
		done = true
		return api.Value{}, false
	}
	return o
}

// room ends the walk, if there was no room; other errors there are none of.
func (r *realm) room(e api.Errno) {
	switch e {
	case api.OK:
	case api.ErrHeap, api.ErrTooBig:
		panic(ended{})
	default:
		panic("an error of the heap")
	}
}

func (r *realm) make(class, proto int) api.Value {
	o, e := r.heap.Make(class, proto)
	r.room(e)
	return obj(o)
}

func (r *realm) put(o api.Value, k api.Key, v api.Value, flags int) {
	r.room(r.heap.Put(o.Ref, k, api.Prop{Value: v, Flags: flags}))
}

func (r *realm) newFunction(name string, length int, c *callee) api.Value {
	o := r.make(api.ClassFunction, r.funcs)
	r.callees[o.Ref] = c
	r.put(o, key("length"), num(float64(length)), api.Configurable)
	r.put(o, key("name"), str(name), api.Configurable)
	return o
}

func (r *realm) library(name string, call action) api.Value {
	return r.newFunction(name, 0, &callee{call: call})
}

// list is an array.
func (r *realm) list(l []api.Value) api.Value {
	o, e := array.List(r.heap, r.arrays, l)
	r.room(e)
	return obj(o)
}

// step counts something that was done.
func (r *realm) step() {
	if r.steps++; r.steps > r.mostSteps {
		panic(ended{})
	}
}

func (r *realm) fail(name string) {
	panic(caught{r.make(api.ClassError, r.kinds[name])})
}

func (r *realm) must(ok bool) {
	if !ok {
		r.fail("TypeError")
	}
}

func (r *realm) callee(f api.Value) *callee {
	c := r.callees[f.Ref]
	r.must(f.Kind == api.Object && c != nil)
	return c
}

func (r *realm) call(f, this api.Value, args ...api.Value) api.Value {
	return r.act(r.callee(f).call, this, f, args)
}

// act does a call, and counts it.
func (r *realm) act(do action, this, self api.Value, args []api.Value) api.Value {
	if len(args) > api.MaxArgs || r.calls >= limitCalls {
		panic(ended{})
	}
	r.step()
	r.calls++
	r.mostCalls = max(r.mostCalls, r.calls)
	defer func() { r.calls-- }()
	return do(this, self, args)
}

func (r *realm) build(f api.Value, args []api.Value) api.Value {
	c := r.callee(f)
	r.must(c.build != nil)
	proto := r.get(f, key("prototype"))
	if proto.Kind != api.Object {
		proto = obj(r.objects)
	}
	this := r.make(api.ClassObject, proto.Ref)
	if v := r.act(c.build, this, f, args); v.Kind == api.Object {
		return v
	}
	return this
}

// own is an own property of any value.
func (r *realm) own(v api.Value, k api.Key) (api.Prop, bool) {
	switch {
	case v.Kind == api.Object:
		return r.heap.Own(v.Ref, k)
	case v.Kind != api.Text || k.Sym > 0:
		return api.Prop{}, false
	case k == key("length"):
		return api.Prop{Value: num(float64(units.Len(v.Str)))}, true
	}
	for i := range units.Len(v.Str) {
		if digits.Show(float64(i)) == k.Name {
			return api.Prop{Value: api.Value{Kind: api.Text, Str: units.Cut(v.Str, i, i+1)}, Flags: api.Enumerable}, true
		}
	}
	return api.Prop{}, false
}

func (r *realm) find(v api.Value, k api.Key) (api.Prop, bool) {
	if p, is := r.own(v, k); is {
		return p, true
	}
	from := v.Ref
	if v.Kind == api.Text {
		from = r.texts
	} else if v.Kind != api.Object {
		return api.Prop{}, false
	}
	_, p, is := object.Find(r.heap, from, k)
	return p, is
}

func (r *realm) get(v api.Value, k api.Key) api.Value {
	r.must(v.Kind > api.Null)
	p, _ := r.find(v, k)
	if p.Flags&api.Accessor == 0 {
		return p.Value
	}
	if p.Get.Kind == api.Undefined {
		return api.Value{}
	}
	return r.call(p.Get, v)
}

func (r *realm) set(v api.Value, k api.Key, x api.Value) {
	r.must(v.Kind > api.Null)
	if p, is := r.find(v, k); is && p.Flags&api.Accessor != 0 {
		r.must(p.Set.Kind == api.Object)
		r.call(p.Set, v, x)
		return
	}
	r.must(v.Kind == api.Object)
	how, _, bad, e := array.Set(r.heap, v.Ref, k, x, v.Ref)
	r.room(e)
	if bad {
		r.fail("RangeError")
	}
	r.must(how == api.SetDone)
}

// create is CreateDataProperty.
func (r *realm) create(o api.Value, k api.Key, v api.Value) {
	const all = api.Writable | api.Enumerable | api.Configurable
	r.define(o, k, api.Desc{Has: api.HasValue | api.HasWritable | api.HasEnumerable | api.HasConfigurable, Prop: api.Prop{Value: v, Flags: all}})
}

func (r *realm) define(o api.Value, k api.Key, d api.Desc) {
	ok, bad, e := array.Define(r.heap, o.Ref, k, d)
	r.room(e)
	r.must(ok && !bad)
}

func (r *realm) remove(v api.Value, k api.Key) {
	r.must(v.Kind > api.Null)
	if v.Kind == api.Object {
		r.must(object.Delete(r.heap, v.Ref, k))
		return
	}
	_, is := r.own(v, k)
	r.must(!is)
}

func (r *realm) prim(v api.Value, order ...string) api.Value {
	if v.Kind != api.Object {
		return v
	}
	for _, name := range order {
		f := r.get(v, key(name))
		if f.Kind != api.Object || r.callees[f.Ref] == nil {
			continue
		}
		if p := r.call(f, v); p.Kind != api.Object {
			return p
		}
	}
	r.fail("TypeError")
	return v
}

func (r *realm) asNumber(v api.Value) api.Value { return r.prim(v, "valueOf", "toString") }

func (r *realm) asText(v api.Value) api.Value { return r.prim(v, "toString", "valueOf") }

func (r *realm) number(v api.Value) float64 {
	x, is := conv.Number(r.asNumber(v))
	r.must(is)
	return x
}

func (r *realm) text(v api.Value) api.Str {
	s, is := conv.Text(r.asText(v))
	r.must(is)
	return s
}

func (r *realm) key(v api.Value) api.Key {
	k, _ := conv.Key(r.asText(v))
	return k
}

func (r *realm) typeOf(v api.Value) string {
	if v.Kind == api.Object && r.callees[v.Ref] != nil {
		return "function"
	}
	return conv.Type(v)
}

func (r *realm) unary(sign string, v api.Value) api.Value {
	if sign == "!" {
		return yes(!conv.Truthy(v))
	}
	return r.done(ops.Unary(sign, r.asNumber(v)))
}

func (r *realm) done(v api.Value, e api.Errno) api.Value {
	r.must(e != api.ErrType)
	r.room(e)
	return v
}

func (r *realm) binary(sign string, a, b api.Value) api.Value {
	switch sign {
	case "in":
		r.must(b.Kind == api.Object)
		_, is := r.find(b, r.key(a))
		return yes(is)
	case "instanceof":
		return yes(r.instance(a, b))
	case "===", "!==":
	case "==", "!=":
		if a.Kind > api.Null && b.Kind > api.Null && (a.Kind != api.Object || b.Kind != api.Object) {
			a, b = r.asNumber(a), r.asNumber(b)
		}
	default:
		a = r.asNumber(a)
		b = r.asNumber(b)
	}
	return r.done(ops.Binary(sign, a, b))
}

func (r *realm) instance(v, f api.Value) bool {
	r.callee(f)
	if v.Kind != api.Object {
		return false
	}
	proto := r.get(f, key("prototype"))
	r.must(proto.Kind == api.Object)
	for at := r.heap.Proto(v.Ref); at != 0; at = r.heap.Proto(at) {
		if at == proto.Ref {
			return true
		}
	}
	return false
}

// open is a value's iterator, and its next.
func (r *realm) open(v api.Value) (it, next api.Value) {
	it = r.call(r.get(v, api.Key{Sym: symbolIterator.Ref}), v)
	r.must(it.Kind == api.Object)
	return it, r.get(it, key("next"))
}

func (r *realm) advance(it, next api.Value) (api.Value, bool) {
	o := r.call(next, it)
	r.must(o.Kind == api.Object)
	if conv.Truthy(r.get(o, key("done"))) {
		return api.Value{}, false
	}
	return r.get(o, key("value")), true
}

func (r *realm) close(it api.Value) {
	if f := r.get(it, key("return")); f.Kind > api.Null {
		r.must(r.call(f, it).Kind == api.Object)
	}
}

// enumerate is the keys of a for in, one by one.
func (r *realm) enumerate(v api.Value) func() (api.Key, bool) {
	if v.Kind == api.Object {
		return iterate.New(r.heap, v.Ref).Next
	}
	at := -1
	return func() (api.Key, bool) {
		at++
		return api.Key{Name: digits.Show(float64(at))}, v.Kind == api.Text && at < units.Len(v.Str)
	}
}

// shown is a value as an outcome has it.
func (r *realm) shown(v api.Value) string {
	if v.Kind == api.Text {
		return lex.Quote(v.Str)
	}
	if v.Kind == api.Symbol {
		return "Symbol(Symbol.iterator)"
	}
	if v.Kind != api.Object {
		return units.Text(r.text(v))
	}
	of := func(name, other string) string {
		if p, is := r.find(v, key(name)); is && p.Flags&api.Accessor == 0 && p.Value.Kind == api.Text {
			return units.Text(p.Value.Str)
		}
		return other
	}
	switch r.heap.Class(v.Ref) {
	case api.ClassFunction:
		if _, is := r.heap.Own(v.Ref, key("name")); !is {
			return "[function ]"
		}
		return "[function " + of("name", "") + "]"
	case api.ClassArray:
		p, _ := r.heap.Own(v.Ref, key("length"))
		return "[array " + units.Text(r.text(p.Value)) + "]"
	case api.ClassError:
		if of("message", "") == "" {
			return of("name", "Error")
		}
		return of("name", "Error") + ": " + of("message", "")
	}
	return "[object]"
}
