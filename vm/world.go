package vm

import (
	"math"
	"strings"

	"lintel/api"
	"lintel/units"
)

// The numbers of prototypes beside those of classes; those of errors stand behind protoErrors, by kinds.
const (
	protoText     = 101
	protoNumber   = 102
	protoBool     = 103
	protoSymbol   = 104
	protoErrors   = 200
	protoIterator = 206
)

// names are the keys that the machine itself asks for.
type names struct {
	length, name, prototype, constructor, message api.Key
	valueOf, toString                             api.Key
	next, done, value, ret, values                api.Key
	iterator                                      api.Key // a symbol
}

func newNames() names {
	of := func(s string) api.Key { return api.Key{Name: word(s)} }
	return names{
		length: of("length"), name: of("name"), prototype: of("prototype"), constructor: of("constructor"), message: of("message"),
		valueOf: of("valueOf"), toString: of("toString"),
		next: of("next"), done: of("done"), value: of("value"), ret: of("return"), values: of("values"),
	}
}

// global is what a global name means.
type global struct {
	value api.Value
	fixed bool // it may not be written
}

// layWorld lays all that a machine has before anything runs.
func (m *Machine) layWorld() {
	m.names.iterator, _ = m.symbols.Symbol(word("Symbol.iterator"))
	objects := m.make(api.ClassObject, 0).Ref
	m.protos[api.ClassObject] = objects
	for _, class := range []int{api.ClassFunction, api.ClassArray, api.ClassMap, api.ClassSet, api.ClassIterator, protoText} {
		m.protos[class] = m.make(api.ClassObject, objects).Ref
	}
	m.protos[protoIterator] = m.protos[api.ClassIterator]
	m.layGlobals()
	m.layErrors()
	m.layIterators()
}

func (m *Machine) layGlobals() {
	free := func(name string, f Native) { m.globals[word(name)] = &global{value: m.newNative(word(name), 0, f)} }
	free("print", (*Machine).print)
	free("input", (*Machine).input)
	fixed := func(name string, v api.Value) { m.globals[word(name)] = &global{value: v, fixed: true} }
	fixed("undefined", api.Value{})
	fixed("NaN", number(math.NaN()))
	fixed("Infinity", number(math.Inf(1)))
}

// layErrors lays the kinds of errors, of which the last one's prototype is the others' prototypes' prototype.
func (m *Machine) layErrors() {
	about := m.protos[api.ClassObject]
	for kind := api.PlainError; kind >= api.TypeError; kind-- {
		proto := m.make(api.ClassObject, about)
		m.protos[protoErrors+kind] = proto.Ref
		if kind == api.PlainError {
			about, m.protos[api.ClassError] = proto.Ref, proto.Ref
		}
		m.layError(kind, proto)
	}
}

func (m *Machine) layError(kind int, proto api.Value) {
	name := word(errorName(kind))
	build := func(m *Machine, _ api.Value, args []api.Value) (api.Value, bool) { return m.errorOf(kind, args), true }
	f := m.newMaker(name, 1, build, build, proto)
	m.lay(proto, m.names.name, text(name), laidFlags)
	m.lay(proto, m.names.message, text(""), laidFlags)
	m.globals[name] = &global{value: f}
}

func errorName(kind int) string {
	switch kind {
	case api.TypeError:
		return "TypeError"
	case api.ReferenceError:
		return "ReferenceError"
	case api.RangeError:
		return "RangeError"
	case api.SyntaxError:
		return "SyntaxError"
	}
	return "Error"
}

// errorOf is what a kind's function answers.
func (m *Machine) errorOf(kind int, args []api.Value) api.Value {
	if len(args) == 0 || args[0].Kind == api.Undefined {
		return m.newError(kind)
	}
	message := text(m.text(args[0]))
	e := m.newError(kind)
	m.lay(e, m.names.message, message, laidFlags)
	return e
}

func (m *Machine) newError(kind int) api.Value {
	return m.make(api.ClassError, m.protos[protoErrors+kind])
}

// layIterators gives arrays and texts what iterating them takes.
func (m *Machine) layIterators() {
	const ofSymbol = "[Symbol.iterator]"
	proto := reference(m.protos[api.ClassIterator])
	next := m.newNative(word("next"), 0, (*Machine).nextOfOwn)
	m.ownNext, _ = m.thing(next).(*function)
	m.lay(proto, m.names.next, next, laidFlags)
	m.lay(proto, m.names.iterator, m.newNative(word(ofSymbol), 0, same), laidFlags)
	arrays, values := reference(m.protos[api.ClassArray]), m.newNative(word("values"), 0, (*Machine).iteratorOf)
	m.lay(arrays, m.names.values, values, laidFlags)
	m.lay(arrays, m.names.iterator, values, laidFlags)
	m.lay(reference(m.protos[protoText]), m.names.iterator, m.newNative(word(ofSymbol), 0, (*Machine).iteratorOf), laidFlags)
}

func same(_ *Machine, this api.Value, _ []api.Value) (api.Value, bool) { return this, true }

// iteratorOf is the function that tells the elements of this.
func (m *Machine) iteratorOf(this api.Value, _ []api.Value) (api.Value, bool) {
	m.must(!isNone(this))
	if this.Kind == api.Text {
		return m.newIterator(points(this.Str)), true
	}
	return m.newIterator(m.elements(this)), true
}

// nextOfOwn is the function that iterators have as their next.
func (m *Machine) nextOfOwn(this api.Value, _ []api.Value) (api.Value, bool) {
	i, is := m.thing(this).(*iterator)
	m.must(is)
	v, more := m.advance(i)
	o := m.make(api.ClassObject, m.protos[api.ClassObject])
	m.create(o, m.names.value, v)
	m.create(o, m.names.done, truth(!more))
	return o, true
}

func (m *Machine) print(_ api.Value, args []api.Value) (api.Value, bool) {
	var texts []string
	for _, v := range args {
		texts = append(texts, units.Text(m.text(v)))
	}
	m.trace = append(m.trace, strings.Join(texts, " "))
	m.seen()
	return api.Value{}, true
}

func (m *Machine) input(api.Value, []api.Value) (api.Value, bool) {
	var v api.Value
	if len(m.host) > 0 {
		v, m.host = text(m.host[0]), m.host[1:]
	}
	m.seen()
	return v, true
}

// seen tells who watches. It is done within the call: a watcher that prints would else go on so forever.
func (m *Machine) seen() {
	if m.watch != nil {
		m.watch()
	}
}

// newFunction is a function object without a prototype.
func (m *Machine) newFunction(f *function, name api.Str, length int) api.Value {
	o := m.make(api.ClassFunction, m.protos[api.ClassFunction])
	m.become(o, f)
	m.lay(o, m.names.length, number(float64(length)), api.Configurable)
	m.lay(o, m.names.name, text(name), api.Configurable)
	return o
}

// newNative is a function of the library that may not be built.
func (m *Machine) newNative(name api.Str, length int, f Native) api.Value {
	return m.newFunction(&function{call: f}, name, length)
}

// newMaker is a function of the library that may be built, with a prototype.
func (m *Machine) newMaker(name api.Str, length int, f, build Native, proto api.Value) api.Value {
	o := m.newFunction(&function{call: f, build: build}, name, length)
	m.marry(o, proto, 0)
	return o
}

// newClosure is a function of a module.
func (m *Machine) newClosure(f *function) api.Value {
	o := m.newFunction(f, f.body.Name, f.body.Params)
	if !f.body.Arrow {
		m.marry(o, m.make(api.ClassObject, m.protos[api.ClassObject]), api.Writable)
	}
	return o
}

// marry gives a function a prototype, with some flags, and that the function as its constructor.
func (m *Machine) marry(f, proto api.Value, flags int) {
	m.lay(f, m.names.prototype, proto, flags)
	m.lay(proto, m.names.constructor, f, laidFlags)
}
