package gen_test

import (
	"math"
	"slices"
	"strconv"
	"strings"

	"lintel/api"
	"lintel/digits"
	"lintel/nums"
	"lintel/units"
)

// A value of the tests is nil (undefined), null, a bool, float64, string, *symbol or *object. What is thrown goes by panics.
type (
	null   struct{}
	symbol struct{ name string }
	thrown struct{ value any }
	stop   struct{}             // a run was too long
	stuck  struct{ why string } // an instruction met what it is not for
)

// prop is a property: a value, or what get and set are.
type prop struct {
	value                              any
	get, set                           any
	accessor                           bool
	writable, enumerable, configurable bool
}

type object struct {
	proto *object
	keys  []any // strings and *symbol's, as they were added
	props map[any]*prop
	array bool
	error bool
	call  func(this any, args []any) any
	build func(args []any) any // nil: it may not be built
}

// world is what scripts run in: the globals, the prototypes, what was printed; with meters.
type world struct {
	iterator *symbol
	globals  map[string]*prop
	trace    []string
	host     []string
	calls    int // within one another
	steps    int // nodes or instructions that were done, and calls
	most     int // how many of them may be
	value    any // the script's

	objects, functions, arrays, texts, iterators *object
	errors                                       map[string]*object // prototypes by names
}

const mostCalls = 60

func newWorld(most int, host ...string) *world {
	w := &world{iterator: &symbol{"Symbol.iterator"}, globals: make(map[string]*prop), host: host, most: most, errors: make(map[string]*object)}
	w.objects = &object{props: make(map[any]*prop)}
	w.functions, w.arrays, w.texts, w.iterators = w.object(), w.object(), w.object(), w.object()
	for _, name := range []string{"Error", "TypeError", "ReferenceError", "RangeError", "SyntaxError"} {
		w.layError(name)
	}
	for name, v := range map[string]any{"undefined": nil, "NaN": math.NaN(), "Infinity": math.Inf(1)} {
		w.globals[name] = &prop{value: v}
	}
	// The machine itself has no global that tells it, but for the tests to say what an iterator is.
	w.globals["iterator"] = &prop{value: w.iterator, writable: true}
	w.layNative("print", func(_ any, args []any) any {
		var all []string
		for _, a := range args {
			all = append(all, w.text(a))
		}
		w.trace = append(w.trace, strings.Join(all, " "))
		return nil
	})
	w.layNative("input", func(any, []any) any {
		if len(w.host) == 0 {
			return nil
		}
		next := w.host[0]
		w.host = w.host[1:]
		return next
	})
	w.layIterators()
	return w
}

func (w *world) layNative(name string, f func(any, []any) any) {
	w.globals[name] = &prop{value: w.native(f), writable: true}
}

func (w *world) layError(name string) {
	proto := w.object()
	if name != "Error" {
		proto.proto = w.errors["Error"]
	}
	w.errors[name] = proto
	build := func(args []any) any {
		e := &object{proto: proto, props: make(map[any]*prop), error: true}
		if len(args) > 0 && args[0] != nil {
			e.add("message", &prop{value: w.text(args[0]), writable: true, configurable: true})
		}
		return e
	}
	f := w.native(func(_ any, args []any) any { return build(args) })
	f.build = build
	f.add("prototype", &prop{value: proto})
	proto.add("constructor", &prop{value: f, writable: true, configurable: true})
	proto.add("name", &prop{value: name, writable: true, configurable: true})
	proto.add("message", &prop{value: "", writable: true, configurable: true})
	w.globals[name] = &prop{value: f, writable: true}
}

// layIterators gives arrays and texts what a for of needs.
func (w *world) layIterators() {
	w.iterators.add(w.iterator, &prop{value: w.native(func(this any, _ []any) any { return this })})
	values := w.native(func(this any, _ []any) any {
		if this == nil || this == any(null{}) {
			w.fail("TypeError")
		}
		at, done := 0, false
		o := &object{proto: w.iterators, props: make(map[any]*prop)}
		o.add("next", &prop{value: w.native(func(any, []any) any {
			if !done && at < int(w.number(w.get(this, "length"))) {
				at++
				return w.result(w.get(this, strconv.Itoa(at-1)), false)
			}
			done = true
			return w.result(nil, true)
		})})
		return o
	})
	w.arrays.add(w.iterator, &prop{value: values})
	w.texts.add(w.iterator, &prop{value: values})
}

func (w *world) result(value any, done bool) any {
	o := w.object()
	o.put("value", value)
	o.put("done", done)
	return o
}

func (w *world) object() *object { return &object{proto: w.objects, props: make(map[any]*prop)} }

func (w *world) native(f func(any, []any) any) *object {
	return &object{proto: w.functions, props: make(map[any]*prop), call: f}
}

func (w *world) list(l ...any) *object {
	o := &object{proto: w.arrays, props: make(map[any]*prop), array: true}
	o.add("length", &prop{value: 0.0, writable: true})
	for _, v := range l {
		o.push(v)
	}
	return o
}

// function is a function object of a script.
func (w *world) function(name string, params int, arrow bool, run func(this any, callee *object, args []any) any) *object {
	f := &object{proto: w.functions, props: make(map[any]*prop)}
	f.call = func(this any, args []any) any {
		w.calls++
		defer func() { w.calls-- }()
		if w.calls > mostCalls {
			panic(stop{})
		}
		w.step()
		return run(this, f, args)
	}
	f.add("length", &prop{value: float64(params), configurable: true})
	f.add("name", &prop{value: name, configurable: true})
	if arrow {
		return f
	}
	proto := w.object()
	proto.add("constructor", &prop{value: f, writable: true, configurable: true})
	f.add("prototype", &prop{value: proto, writable: true})
	f.build = func(args []any) any {
		this := w.object()
		if p, ok := w.get(f, "prototype").(*object); ok {
			this.proto = p
		}
		if o, ok := f.call(this, args).(*object); ok {
			return o
		}
		return this
	}
	return f
}

// step counts what was done.
func (w *world) step() {
	if w.steps++; w.steps > w.most {
		panic(stop{})
	}
}

func (w *world) fail(name string) {
	panic(thrown{&object{proto: w.errors[name], props: make(map[any]*prop), error: true}})
}

func (w *world) must(ok bool) {
	if !ok {
		w.fail("TypeError")
	}
}

// add puts a property where there was none, or in the place of what there was.
func (o *object) add(k any, p *prop) {
	if _, is := o.props[k]; !is {
		o.keys = append(o.keys, k)
	}
	o.props[k] = p
}

// put is CreateDataProperty.
func (o *object) put(k, v any) {
	o.add(k, &prop{value: v, writable: true, enumerable: true, configurable: true})
	if i, is := index(k); is && o.array && float64(i) >= o.props["length"].value.(float64) {
		o.props["length"].value = float64(i + 1)
	}
}

func (o *object) push(v any) { o.put(strconv.Itoa(int(o.props["length"].value.(float64))), v) }

func (o *object) drop(k any) {
	delete(o.props, k)
	o.keys = slices.DeleteFunc(o.keys, func(other any) bool { return other == k })
}

// index is the number that a key is, if it is one of an array's elements.
func index(k any) (int, bool) {
	s, ok := k.(string)
	if !ok {
		return 0, false
	}
	i, err := strconv.Atoi(s)
	return i, err == nil && i >= 0 && strconv.Itoa(i) == s
}

// accessor gives an object a getter or setter, beside the one that is there.
func (o *object) accessor(k any, f any, setter bool) {
	p := &prop{accessor: true, enumerable: true, configurable: true}
	if was := o.props[k]; was != nil && was.accessor {
		p.get, p.set = was.get, was.set
	}
	if setter {
		p.set = f
	} else {
		p.get = f
	}
	o.add(k, p)
}

// ownTexts is the keys that are texts, numbers ahead.
func (o *object) ownTexts() []string {
	var numbers []int
	var out, names []string
	for _, k := range o.keys {
		if i, ok := index(k); ok {
			numbers = append(numbers, i)
		} else if s, ok := k.(string); ok {
			names = append(names, s)
		}
	}
	slices.Sort(numbers)
	for _, i := range numbers {
		out = append(out, strconv.Itoa(i))
	}
	return append(out, names...)
}

// own is an own property of any value.
func own(v, k any) *prop {
	switch v := v.(type) {
	case *object:
		return v.props[k]
	case string:
		if i, ok := index(k); ok && i < len(v) {
			return &prop{value: v[i : i+1], enumerable: true}
		}
		if k == any("length") {
			return &prop{value: float64(len(v))}
		}
	}
	return nil
}

func (w *world) find(v, k any) *prop {
	if p := own(v, k); p != nil {
		return p
	}
	var o *object
	switch v := v.(type) {
	case *object:
		o = v.proto
	case string:
		o = w.texts
	}
	for ; o != nil; o = o.proto {
		if p := o.props[k]; p != nil {
			return p
		}
	}
	return nil
}

func (w *world) get(v, k any) any {
	w.must(v != nil && v != any(null{}))
	p := w.find(v, k)
	switch {
	case p == nil:
		return nil
	case !p.accessor:
		return p.value
	case p.get == nil:
		return nil
	}
	return w.call(p.get, v)
}

func (w *world) set(v, k, x any) {
	w.must(v != nil && v != any(null{}))
	p := w.find(v, k)
	if p != nil && p.accessor {
		w.must(p.set != nil)
		w.call(p.set, v, x)
		return
	}
	o, ok := v.(*object)
	w.must(ok && (p == nil || p.writable))
	if own := o.props[k]; own == nil {
		o.put(k, x)
	} else if o.array && k == any("length") {
		w.setLength(o, x)
	} else {
		own.value = x
	}
}

func (w *world) setLength(o *object, x any) {
	n := w.number(x)
	if n < 0 || n != math.Trunc(n) || n > math.MaxUint32 {
		w.fail("RangeError")
	}
	for _, k := range slices.Clone(o.keys) {
		if i, ok := index(k); ok && float64(i) >= n {
			o.drop(k)
		}
	}
	o.props["length"].value = n
}

func (w *world) remove(v, k any) any {
	w.must(v != nil && v != any(null{}))
	if p := own(v, k); p != nil {
		w.must(p.configurable)
		v.(*object).drop(k)
	}
	return true
}

func (w *world) call(f, this any, args ...any) any {
	o, ok := f.(*object)
	w.must(ok && o.call != nil)
	return o.call(this, args)
}

func (w *world) build(f any, args []any) any {
	o, ok := f.(*object)
	w.must(ok && o.build != nil)
	return o.build(args)
}

// assign sets a global.
func (w *world) assign(name string, v any) {
	p := w.globals[name]
	if p == nil {
		w.fail("ReferenceError")
	}
	w.must(p.writable)
	p.value = v
}

// open is the iterator of a value, and its next.
func (w *world) open(v any) (it, next any) {
	it = w.call(w.get(v, w.iterator), v)
	w.must(isObject(it))
	return it, w.get(it, "next")
}

// stepOn is the next value of an iterator; false: there is none.
func (w *world) stepOn(it, next any) (any, bool) {
	r := w.call(next, it)
	w.must(isObject(r))
	if truthy(w.get(r, "done")) {
		return nil, false
	}
	return w.get(r, "value"), true
}

func (w *world) closeIterator(it any) {
	f := w.get(it, "return")
	if f != nil && f != any(null{}) {
		w.must(isObject(w.call(f, it)))
	}
}

// quietly does something; what it throws does not count.
func quietly(do func()) {
	defer func() {
		if t := recover(); t != nil {
			if _, ok := t.(thrown); !ok {
				panic(t)
			}
		}
	}()
	do()
}

// enumeration is the keys of a for in that are not told yet, object by object.
type enumeration struct {
	at   *object
	keys []string
	seen map[string]bool
	text string // of a text: its indices are told
	next int
}

func enumerate(v any) *enumeration {
	e := &enumeration{seen: make(map[string]bool)}
	switch v := v.(type) {
	case *object:
		e.comeTo(v)
	case string:
		e.text = v
	}
	return e
}

func (e *enumeration) comeTo(o *object) {
	e.at, e.keys = o, nil
	if o == nil {
		return
	}
	for _, k := range o.ownTexts() {
		if !e.seen[k] {
			e.keys = append(e.keys, k)
		}
	}
	for _, k := range o.ownTexts() {
		e.seen[k] = true
	}
}

func (e *enumeration) step() (string, bool) {
	if e.next < len(e.text) {
		e.next++
		return strconv.Itoa(e.next - 1), true
	}
	for e.at != nil {
		if len(e.keys) == 0 {
			e.comeTo(e.at.proto)
			continue
		}
		k := e.keys[0]
		e.keys = e.keys[1:]
		if p := e.at.props[k]; p != nil && p.enumerable {
			return k, true
		}
	}
	return "", false
}

func isObject(v any) bool {
	_, ok := v.(*object)
	return ok
}

func truthy(v any) bool {
	switch v := v.(type) {
	case nil, null:
		return false
	case bool:
		return v
	case float64:
		return v != 0 && v == v
	case string:
		return v != ""
	}
	return true
}

func typeOf(v any) string {
	switch v := v.(type) {
	case nil:
		return "undefined"
	case bool:
		return "boolean"
	case float64:
		return "number"
	case string:
		return "string"
	case *symbol:
		return "symbol"
	case *object:
		if v.call != nil {
			return "function"
		}
	}
	return "object"
}

func (w *world) prim(v any, wish string) any {
	o, ok := v.(*object)
	if !ok {
		return v
	}
	order := []string{"valueOf", "toString"}
	if wish == "string" {
		slices.Reverse(order)
	}
	for _, name := range order {
		if f, ok := w.get(o, name).(*object); ok && f.call != nil {
			if p := w.call(f, o); !isObject(p) {
				return p
			}
		}
	}
	w.fail("TypeError")
	return nil
}

func (w *world) number(v any) float64 {
	switch v := w.prim(v, "number").(type) {
	case nil:
		return math.NaN()
	case bool:
		if v {
			return 1
		}
	case float64:
		return v
	case string:
		s, _, _ := units.Of(v)
		return digits.Read(s)
	case *symbol:
		w.fail("TypeError")
	}
	return 0
}

func (w *world) text(v any) string {
	switch v := w.prim(v, "string").(type) {
	case nil:
		return "undefined"
	case null:
		return "null"
	case bool:
		return strconv.FormatBool(v)
	case float64:
		return units.Text(digits.Show(v))
	case string:
		return v
	}
	w.fail("TypeError")
	return ""
}

func (w *world) key(v any) any {
	v = w.prim(v, "string")
	if s, ok := v.(*symbol); ok {
		return s
	}
	return w.text(v)
}

func (w *world) unary(sign string, v any) any {
	switch sign {
	case "!":
		return !truthy(v)
	case "typeof":
		return typeOf(v)
	case "-":
		return -w.number(v)
	case "~":
		return float64(^nums.Int32(w.number(v)))
	}
	return w.number(v)
}

func same(a, b any) bool {
	x, isNumber := a.(float64)
	if y, ok := b.(float64); ok && isNumber {
		return x == y
	}
	return a == b
}

func (w *world) loose(a, b any) bool {
	isNone := func(v any) bool { return v == nil || v == any(null{}) }
	switch {
	case isNone(a) || isNone(b):
		return isNone(a) && isNone(b)
	case typeOf(a) == typeOf(b) || isObject(a) && isObject(b):
		return same(a, b)
	case isObject(a):
		return w.loose(w.prim(a, ""), b)
	case isObject(b):
		return w.loose(a, w.prim(b, ""))
	case typeOf(a) == "symbol" || typeOf(b) == "symbol":
		return false
	}
	return w.number(a) == w.number(b)
}

func (w *world) instance(v, f any) any {
	o, ok := f.(*object)
	w.must(ok && o.call != nil)
	if !isObject(v) {
		return false
	}
	proto, ok := w.get(o, "prototype").(*object)
	w.must(ok)
	for at := v.(*object).proto; at != nil; at = at.proto {
		if at == proto {
			return true
		}
	}
	return false
}

func (w *world) binary(sign string, a, b any) any {
	switch sign {
	case "===":
		return same(a, b)
	case "!==":
		return !same(a, b)
	case "==":
		return w.loose(a, b)
	case "!=":
		return !w.loose(a, b)
	case "in":
		w.must(isObject(b))
		return w.find(b, w.key(a)) != nil
	case "instanceof":
		return w.instance(a, b)
	}
	wish := "number"
	if sign == "+" {
		wish = ""
	}
	a, b = w.prim(a, wish), w.prim(b, wish)
	x, isText := a.(string)
	y, ok := b.(string)
	switch {
	case sign == "+" && (isText || ok):
		return w.joined(w.text(a), w.text(b))
	case isText && ok && strings.Contains("<= >=", sign):
		return compared(sign, strings.Compare(x, y))
	}
	return w.arithmetic(sign, w.number(a), w.number(b))
}

// joined is two texts put together, unless that is too long.
func (w *world) joined(a, b string) string {
	if len(a)+len(b) > api.MaxStr {
		panic(stop{})
	}
	return a + b
}

func compared(sign string, c int) bool {
	switch sign {
	case "<":
		return c < 0
	case ">":
		return c > 0
	case "<=":
		return c <= 0
	}
	return c >= 0
}

func (w *world) arithmetic(sign string, x, y float64) any {
	switch sign {
	case "+":
		return x + y
	case "-":
		return x - y
	case "*":
		return x * y
	case "/":
		return x / y
	case "%":
		return nums.Rem(x, y)
	case "**":
		return nums.Pow(x, y)
	case "<<":
		return nums.Left(x, y)
	case ">>":
		return nums.Right(x, y)
	case ">>>":
		return nums.Over(x, y)
	case "&":
		return float64(nums.Int32(x) & nums.Int32(y))
	case "|":
		return float64(nums.Int32(x) | nums.Int32(y))
	case "^":
		return float64(nums.Int32(x) ^ nums.Int32(y))
	case "<":
		return x < y
	case ">":
		return x > y
	case "<=":
		return x <= y
	}
	return x >= y
}

// shown is a value as an outcome has it.
func (w *world) shown(v any) string {
	switch v := v.(type) {
	case string:
		return strconv.Quote(v)
	case *symbol:
		return "Symbol(" + v.name + ")"
	case *object:
		return w.shownObject(v)
	}
	return w.text(v)
}

func (w *world) shownObject(o *object) string {
	switch {
	case o.call != nil:
		name := ""
		if p := own(o, "name"); p != nil {
			name, _ = p.value.(string)
		}
		return "[function " + name + "]"
	case o.array:
		return "[array " + w.text(o.props["length"].value) + "]"
	case o.error:
		name, _ := w.find(o, "name").value.(string)
		if message, _ := w.find(o, "message").value.(string); message != "" {
			return name + ": " + message
		}
		return name
	}
	return "[object]"
}

// outcome is how a run ended.
type outcome struct {
	api.Outcome
	steps int
	why   string // of what is stuck
}

// ended does something in the world, and tells how it ended.
func (w *world) ended(run func()) (out outcome) {
	defer func() {
		out.Trace, out.steps = w.trace, w.steps
		switch t := recover().(type) {
		case nil:
		case thrown:
			out.End, out.Value = api.EndThrow, w.shown(t.value)
		case stop:
			out.End = api.EndFuel
		case stuck:
			out.End, out.why = api.EndStuck, t.why
		default:
			panic(t)
		}
	}()
	run()
	out.Value = w.shown(w.value)
	return out
}
