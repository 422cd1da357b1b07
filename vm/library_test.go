package vm_test

import (
	"math"
	"slices"
	"strings"
	"testing"
	"unsafe"

	"lintel/api"
	"lintel/array"
	"lintel/heap"
	"lintel/object"
	"lintel/vm"
)

const (
	w  = api.Writable
	en = api.Enumerable
	c  = api.Configurable
)

func null() api.Value { return api.Value{Kind: api.Null} }

// made is a value that is there.
func made(t *testing.T, v api.Value, ok bool) api.Value {
	t.Helper()
	if !ok {
		t.Fatal("there is none")
	}
	return v
}

// native is a function of the library on a machine.
func native(t *testing.T, m *vm.Machine, name string, f vm.Native) api.Value {
	t.Helper()
	v, ok := m.Native(name, 0, f)
	m.Global(name, made(t, v, ok))
	return v
}

// run asks what a source on a machine comes to.
func run(t *testing.T, m *vm.Machine, src, want string) {
	t.Helper()
	before := len(m.Source("").Trace)
	o := m.Source(src)
	o.Trace = o.Trace[before:]
	if told(o) != want {
		t.Errorf("%s: %s, not %s", src, told(o), want)
	}
}

// answer is the value of a source on a machine.
func answer(t *testing.T, m *vm.Machine, src string) api.Value {
	t.Helper()
	var v api.Value
	native(t, m, "take", func(_ *vm.Machine, _ api.Value, args []api.Value) (api.Value, bool) {
		v = args[0]
		return api.Value{}, true
	})
	if o := m.Source("take(" + src + ");"); o.End != api.EndNormal {
		t.Fatalf("%s: %s", src, told(o))
	}
	return v
}

// holdProp asks for an own property.
func holdProp(t *testing.T, m *vm.Machine, v api.Value, k api.Key, want api.Prop) {
	t.Helper()
	if p, is := m.Own(v, k); !is || p != want {
		t.Errorf("%q: %+v, %v, not %+v", k.Name, p, is, want)
	}
}

// strangers are machines that New did not make.
func strangers() []*vm.Machine {
	m := vm.New(roomy, nil)
	other := *m
	return []*vm.Machine{nil, {}, &other}
}

// P21.1: a nil machine, and others that New did not make.
func TestStrangers(t *testing.T) {
	yes := func(*vm.Machine, api.Value, []api.Value) (api.Value, bool) { return num(1), true }
	for i, m := range strangers() {
		for about, o := range map[string]api.Outcome{"Run": m.Run(script(code(nil, ins(api.OpReturn, 0)))), "Run of none": m.Run(api.Module{}), "Source": m.Source("1"), "Source of none": m.Source("let")} {
			if o.End != api.EndStuck || o.Value != "" || o.Trace != nil {
				t.Errorf("%d: %s: %+v", i, about, o)
			}
		}
		hits, misses := m.Caches()
		if m.Spent() != 0 || m.Heap() != nil || hits != 0 || misses != 0 || m.Proto(0) != 0 || m.Proto(101) != 0 || m.Give(102, 1) || m.Global("x", num(1)) || m.Lay(obj(1), "x", num(1)) || m.About(symbolIterator) != "" || m.Charge(0) || m.Is(obj(5)) || m.Show(num(1)) != "" {
			t.Errorf("%d: something is told", i)
		}
		k, isSymbol := m.Symbol("")
		o, isObject := m.Make(0, 0)
		f, isNative := m.Native("f", 0, yes)
		g, isMaker := m.Maker("f", 0, yes, yes)
		it, isIterator := m.Iterator(func() (api.Value, bool, bool) { return num(1), false, true })
		if isSymbol || isObject || isNative || isMaker || isIterator || k != (api.Key{}) || o != (api.Value{}) || f != o || g != o || it != o {
			t.Errorf("%d: something is made", i)
		}
		for about, do := range map[string]func() (api.Value, bool){
			"Fail":  func() (api.Value, bool) { return m.Fail(1) },
			"Throw": func() (api.Value, bool) { return m.Throw(num(1)) },
			"Stop":  m.Stop,
			"Call":  func() (api.Value, bool) { return m.Call(obj(1), num(1), nil) },
			"Build": func() (api.Value, bool) { return m.Build(obj(1), nil) },
			"Get":   func() (api.Value, bool) { return m.Get(str("a"), key("length")) },
			"Prim":  func() (api.Value, bool) { return m.Prim(num(1), true) },
		} {
			if v, ok := do(); ok || v != (api.Value{}) {
				t.Errorf("%d: %s: %+v, %v", i, about, v, ok)
			}
		}
		p, isOwn := m.Own(str("a"), key("length"))
		q, isFound := m.Find(str("a"), key("length"))
		is, ok := m.Define(obj(1), key("a"), api.Desc{})
		x, isNumber := m.Number(num(1))
		s, isText := m.Text(num(1))
		name, isKey := m.Key(num(1))
		told := false
		if isOwn || isFound || is || ok || isNumber || isText || isKey || p != (api.Prop{}) || q != p || x != 0 || s != "" || name != (api.Key{}) || m.Set(obj(1), key("a"), num(1)) || m.Iterate(str("a"), func(api.Value) bool { told = true; return true }) || told {
			t.Errorf("%d: something is got", i)
		}
		m.Flush(1)
		m.Watch(func() {})
	}
}

// P21.8: the prototypes.
func TestProto(t *testing.T) {
	m := machine(t, roomy)
	h := m.Heap()
	for class := -3; class < 210; class++ {
		is := class >= 0 && class <= 6 || class == 101 || class > 200 && class <= 206
		if p := m.Proto(class); (p != 0) != is || is && (!h.Has(p) || h.Class(p) != api.ClassObject || (h.Proto(p) == 0) != (class == 0)) {
			t.Errorf("%d: %d", class, p)
		}
	}
	for class, src := range map[int]string{0: "{}", 1: "[]", 2: "print", 3: "Error()", 6: "[].values()"} {
		if got := h.Proto(answer(t, m, src).Ref); got != m.Proto(class) {
			t.Errorf("%s: %d, not %d", src, got, m.Proto(class))
		}
	}
	for kind, name := range map[int]string{api.TypeError: "TypeError", api.ReferenceError: "ReferenceError", api.RangeError: "RangeError", api.SyntaxError: "SyntaxError", api.PlainError: "Error"} {
		if got := h.Proto(answer(t, m, name+"()").Ref); got != m.Proto(200+kind) || got != answer(t, m, name+".prototype").Ref {
			t.Errorf("%s: %d, not %d", name, got, m.Proto(200+kind))
		}
	}
	if m.Proto(api.ClassError) != m.Proto(205) || m.Proto(api.ClassIterator) != m.Proto(206) || len(h.Keys(m.Proto(0))) != 0 || len(h.Keys(m.Proto(2))) != 0 {
		t.Error("other prototypes")
	}
	if h.Class(answer(t, m, "[].values()").Ref) != api.ClassIterator || h.Class(answer(t, m, "TypeError()").Ref) != api.ClassError || h.Class(answer(t, m, "() => 1").Ref) != api.ClassFunction {
		t.Error("other classes")
	}
}

// P21.8: what numbers, bools and symbols have from Give on.
func TestGive(t *testing.T) {
	m := machine(t, roomy)
	for class := -1; class < 210; class++ {
		o, ok := m.Make(api.ClassObject, m.Proto(0))
		made(t, o, ok)
		if is := class >= 102 && class <= 104; m.Give(class, o.Ref) != is || is && m.Proto(class) != o.Ref {
			t.Errorf("%d", class)
		}
		if m.Give(class, 0) || m.Give(class, -1) || m.Give(class, 100000) {
			t.Errorf("%d: no object is given", class)
		}
	}
	for class, name := range map[int]string{102: "n", 103: "b", 104: "s"} {
		m.Lay(obj(m.Proto(class)), "x", str(name))
	}
	get, _ := m.Native("get", 0, func(_ *vm.Machine, this api.Value, _ []api.Value) (api.Value, bool) { return this, true })
	m.Define(obj(m.Proto(102)), key("me"), api.Desc{Has: api.HasGet | api.HasSet, Prop: api.Prop{Get: get, Set: get}})
	hear, _ := m.Native("hear", 1, func(_ *vm.Machine, this api.Value, args []api.Value) (api.Value, bool) {
		m.Global("heard", args[0])
		return this, true
	})
	m.Define(obj(m.Proto(102)), key("hear"), api.Desc{Has: api.HasSet, Prop: api.Prop{Set: hear}})
	run(t, m, "(5).hear = 'a'; print(heard, (5).hear); let s = 'text'; s.x = 1;", "a undefined throws TypeError")
	run(t, m, "print((5).x, true.x, iterator.x, (5).me + 1, (5).y, 'a'.x); (5).me = 7; try { (5).x = 1; } catch (e) { print(e.name); } print(delete (5).x);", "n b s 6 undefined undefined | TypeError | true")
	run(t, m, "let v = { [iterator]: [].values }[iterator]; for (const x of [1]) print(x); try { [...5]; } catch (e) { print(e.name); }", "1 | TypeError")
}

// P21.8: globals.
func TestGlobal(t *testing.T) {
	m := machine(t, roomy)
	for _, x := range []struct {
		name string
		v    api.Value
	}{{"x", num(1)}, {"x", str("again")}, {"print2", null()}, {"undefined2", api.Value{Kind: 99, Num: 5}}, {"", num(2)}, {"\u20ac", num(3)}} {
		if !m.Global(x.name, x.v) {
			t.Error(x.name)
		}
	}
	if m.Global("\xff", num(1)) {
		t.Error("a name that is none")
	}
	run(t, m, "print(x, typeof print2, typeof undefined2); x = 5; print(x); typeof y;", "again object undefined | 5")
	m.Global("NaN", num(3))
	run(t, m, "print(NaN); NaN = 1;", "3 throws TypeError")
}

// P21.8: objects, functions, properties.
func TestMake(t *testing.T) {
	m := machine(t, roomy)
	h := m.Heap()
	for class := -1; class <= 7; class++ {
		for _, proto := range []int{0, m.Proto(0), m.Proto(5), -1, 1 << 40} {
			used := h.Used()
			v, ok := m.Make(class, proto)
			want := class >= 0 && class <= 6 && (proto == 0 || h.Has(proto))
			if !ok && h.Used() != used {
				t.Errorf("%d, %d: cells were taken", class, proto)
			}
			if ok != want || ok && (v.Kind != api.Object || h.Class(v.Ref) != class || h.Proto(v.Ref) != proto) || !ok && v != (api.Value{}) {
				t.Errorf("%d, %d: %+v, %v", class, proto, v, ok)
			}
			if n, is := array.Length(h, v.Ref); ok && is != (class == api.ClassArray) || n != 0 {
				t.Errorf("%d, %d: length %d, %v", class, proto, n, is)
			}
			if m.Is(v) {
				t.Errorf("%d: it is no function", class)
			}
		}
	}
	calls := 0
	f, ok := m.Native("ab\u20ac", 7, func(got *vm.Machine, this api.Value, args []api.Value) (api.Value, bool) {
		calls++
		if got != m || this != null() || !slices.Equal(args, []api.Value{num(1), str("x")}) {
			t.Errorf("%v %+v %+v", got == m, this, args)
		}
		return num(5), true
	})
	made(t, f, ok)
	holdProp(t, m, f, key("length"), api.Prop{Value: num(7), Flags: c})
	holdProp(t, m, f, key("name"), api.Prop{Value: str("ab\u20ac"), Flags: c})
	if _, is := m.Own(f, key("prototype")); is || !m.Is(f) || h.Class(f.Ref) != api.ClassFunction || h.Proto(f.Ref) != m.Proto(2) {
		t.Error("another function")
	}
	if v, ok := m.Call(f, null(), []api.Value{num(1), str("x")}); v != num(5) || !ok || calls != 1 {
		t.Errorf("%+v, %v", v, ok)
	}
	if _, ok := m.Build(f, nil); ok {
		t.Error("it was built")
	}
	if _, ok := m.Native("\xff", 0, nil); ok {
		t.Error("a name that is none")
	}
	none, _ := m.Native("", -1, nil)
	if v, ok := m.Call(none, num(1), nil); v != (api.Value{}) || !ok {
		t.Errorf("no function: %+v, %v", v, ok)
	}
}

// P21.8: functions that may be built.
func TestMaker(t *testing.T) {
	m := machine(t, roomy)
	h := m.Heap()
	var builtWith api.Value
	mine := made(t, str("called"), true)
	f, ok := m.Maker("F", 2, func(*vm.Machine, api.Value, []api.Value) (api.Value, bool) { return mine, true }, func(_ *vm.Machine, this api.Value, args []api.Value) (api.Value, bool) {
		builtWith = this
		if len(args) > 0 {
			return args[0], true
		}
		return api.Value{}, true
	})
	m.Global("F", made(t, f, ok))
	p, _ := m.Own(f, key("prototype"))
	if p.Flags != 0 || h.Class(p.Value.Ref) != api.ClassObject || h.Proto(p.Value.Ref) != m.Proto(0) {
		t.Errorf("%+v", p)
	}
	holdProp(t, m, p.Value, key("constructor"), api.Prop{Value: f, Flags: w | c})
	holdProp(t, m, f, key("length"), api.Prop{Value: num(2), Flags: c})
	if keys := h.Keys(f.Ref); len(keys) != 3 || len(h.Keys(p.Value.Ref)) != 1 {
		t.Errorf("%v", keys)
	}
	run(t, m, "print(F(), new F() instanceof F, new F([7])[0], new F(5) instanceof F); try { F.prototype = 1; } catch (e) { print(e.name); }", "called true 7 true | TypeError")
	if h.Proto(builtWith.Ref) != p.Value.Ref {
		t.Errorf("built with %+v", builtWith)
	}
	o := answer(t, m, "[1]")
	if v, ok := m.Build(f, []api.Value{o}); v != o || !ok {
		t.Errorf("%+v, %v", v, ok)
	}
	g, _ := m.Maker("G", 0, nil, nil)
	m.Global("G", g)
	run(t, m, "print(G()); new G();", "undefined throws TypeError")
	if _, ok := m.Maker("\xff", 0, nil, nil); ok {
		t.Error("a name that is none")
	}
}

// P21.6: what new builds has Proto(ClassObject), if the function has no object as its prototype; and is an instance even so.
func TestBuiltProto(t *testing.T) {
	m := machine(t, roomy)
	m.Global("objects", obj(m.Proto(0)))
	o := answer(t, m, "(() => { function F() {} F.prototype = 5; return new F(); })()")
	if m.Heap().Proto(o.Ref) != m.Proto(0) {
		t.Errorf("%d", m.Heap().Proto(o.Ref))
	}
	run(t, m, "function F() {} F.prototype = objects; print({} instanceof F, objects instanceof F, [] instanceof F);", "true false true")
}

// P21.8: Lay.
func TestLay(t *testing.T) {
	m := machine(t, roomy)
	o, _ := m.Make(0, 0)
	a := answer(t, m, "[1, 2]")
	if !m.Lay(o, "a\u20ac", str("x")) || !m.Lay(o, "a\u20ac", str("y")) || !m.Lay(a, "5", num(6)) || !m.Lay(a, "0", num(7)) {
		t.Error("not laid")
	}
	holdProp(t, m, o, key("a\u20ac"), api.Prop{Value: str("y"), Flags: w | c})
	holdProp(t, m, a, key("0"), api.Prop{Value: num(7), Flags: w | c})
	if n, _ := array.Length(m.Heap(), a.Ref); n != 6 {
		t.Errorf("length %d", n)
	}
	used := m.Heap().Used()
	for _, v := range []api.Value{{}, null(), num(1), str("a"), obj(0), obj(-1), obj(1 << 40), symbolIterator, {Kind: api.Symbol, Ref: o.Ref}} {
		if m.Lay(v, "a", num(1)) || m.Heap().Used() != used {
			t.Errorf("laid into %+v", v)
		}
	}
	object.Freeze(m.Heap(), o.Ref)
	if m.Lay(o, "a\u20ac", str("z")) || m.Lay(o, "b", str("z")) {
		t.Error("laid into what is frozen")
	}
	holdProp(t, m, o, key("a\u20ac"), api.Prop{Value: str("y")})
	if m.Lay(o, "\xff", num(1)) {
		t.Error("a name that is none")
	}
	run(t, m, "print(1);", "1")
}

// P21.8: no room: the machine ends so, whoever asked.
func TestNoRoom(t *testing.T) {
	for about, do := range map[string]func(m *vm.Machine) bool{
		"Make":     func(m *vm.Machine) bool { _, ok := m.Make(0, 0); return ok },
		"an array": func(m *vm.Machine) bool { _, ok := m.Make(1, 0); return ok },
		"Native":   func(m *vm.Machine) bool { _, ok := m.Native("f", 0, nil); return ok },
		"Maker":    func(m *vm.Machine) bool { _, ok := m.Maker("f", 0, nil, nil); return ok },
		"Lay":      func(m *vm.Machine) bool { return m.Lay(obj(m.Proto(0)), "x", num(1)) },
		"Iterator": func(m *vm.Machine) bool { _, ok := m.Iterator(nil); return ok },
		"Fail":     func(m *vm.Machine) bool { _, ok := m.Fail(1); return ok },
		"Set":      func(m *vm.Machine) bool { return m.Set(obj(m.Proto(0)), key("x"), num(1)) },
		"Define": func(m *vm.Machine) bool {
			is, ok := m.Define(obj(m.Proto(0)), key("x"), api.Desc{})
			return is || ok
		},
		"Call": func(m *vm.Machine) bool { _, ok := m.Call(num(1), num(1), nil); return ok },
	} {
		own := vm.New(roomy, nil).Heap().Used()
		for more := range 2 {
			m := vm.New(api.Limits{Fuel: 100, Frames: 10, Cells: own + more}, nil)
			if more == 1 && (about == "Make" || about == "Lay" || about == "Iterator" || about == "Set" || about == "Define" || about == "Fail" || about == "Call") {
				continue
			}
			if do(m) || m.Heap().Used() > own+more {
				t.Errorf("%s: there was room", about)
			}
			if o := m.Source("1"); o.End != api.EndLimit {
				t.Errorf("%s: end %d", about, o.End)
			}
		}
	}
}

// P21.8: symbols.
func TestSymbols(t *testing.T) {
	m := machine(t, roomy)
	if m.About(symbolIterator) != utf16("Symbol.iterator") {
		t.Error(m.About(symbolIterator))
	}
	last := 1
	for _, name := range []string{"", "a", "a", "\u20ac"} {
		k, ok := m.Symbol(utf16(name))
		if last++; !ok || k != (api.Key{Sym: last}) || m.About(api.Value{Kind: api.Symbol, Ref: last}) != utf16(name) {
			t.Errorf("%s: %+v, %v", name, k, ok)
		}
	}
	for _, v := range []api.Value{{Kind: api.Symbol}, {Kind: api.Symbol, Ref: 99}, {Kind: api.Symbol, Ref: -1}, str("a"), obj(1), {Ref: 1}} {
		if m.About(v) != "" {
			t.Errorf("%+v", v)
		}
	}
	m.Global("s", api.Value{Kind: api.Symbol, Ref: 3})
	run(t, m, "let o = { [s]: 1 }; print(o[s], o[iterator], typeof s, s === s, s == iterator); s;", "1 undefined symbol true false")
	for last++; last <= api.MaxSymbols; last++ {
		if k, ok := m.Symbol(""); !ok || k.Sym != last {
			t.Fatalf("%d: %+v, %v", last, k, ok)
		}
	}
	if k, ok := m.Symbol(""); ok || k != (api.Key{}) || m.Source("1").End != api.EndLimit {
		t.Errorf("%+v, %v", k, ok)
	}
}

// P21.9: what the library throws, and what stops.
func TestThrowing(t *testing.T) {
	for _, x := range []struct {
		f    vm.Native
		want string
	}{
		{func(m *vm.Machine, _ api.Value, _ []api.Value) (api.Value, bool) { return m.Fail(api.TypeError) }, "TypeError true | f | behind"},
		{func(m *vm.Machine, _ api.Value, _ []api.Value) (api.Value, bool) { return m.Fail(api.ReferenceError) }, "ReferenceError true | f | behind"},
		{func(m *vm.Machine, _ api.Value, _ []api.Value) (api.Value, bool) { return m.Fail(api.RangeError) }, "RangeError true | f | behind"},
		{func(m *vm.Machine, _ api.Value, _ []api.Value) (api.Value, bool) { return m.Fail(api.SyntaxError) }, "SyntaxError true | f | behind"},
		{func(m *vm.Machine, _ api.Value, _ []api.Value) (api.Value, bool) { return m.Fail(api.PlainError) }, "Error true | f | behind"},
		{func(m *vm.Machine, _ api.Value, _ []api.Value) (api.Value, bool) { return m.Fail(0) }, "Error true | f | behind"},
		{func(m *vm.Machine, _ api.Value, _ []api.Value) (api.Value, bool) { return m.Fail(99) }, "Error true | f | behind"},
		{func(m *vm.Machine, _ api.Value, _ []api.Value) (api.Value, bool) { return m.Throw(str("mine")) }, "mine false | f | behind"},
		{func(m *vm.Machine, _ api.Value, _ []api.Value) (api.Value, bool) { return m.Throw(api.Value{Kind: -5}) }, "undefined false | f | behind"},
		{func(m *vm.Machine, _ api.Value, _ []api.Value) (api.Value, bool) { return num(1), false }, "undefined false | f | behind"},
		{func(m *vm.Machine, _ api.Value, _ []api.Value) (api.Value, bool) { return m.Stop() }, "limit"},
		{func(m *vm.Machine, _ api.Value, _ []api.Value) (api.Value, bool) { m.Stop(); return num(1), true }, "limit"},
		{func(m *vm.Machine, _ api.Value, _ []api.Value) (api.Value, bool) { return num(1), m.Charge(1 << 50) }, "fuel"},
		{func(m *vm.Machine, _ api.Value, _ []api.Value) (api.Value, bool) {
			m.Charge(1 << 50)
			m.Stop()
			return num(1), true
		}, "fuel"},
		{func(m *vm.Machine, _ api.Value, _ []api.Value) (api.Value, bool) { m.Fail(1); return num(1), true }, "1 | f | behind"},
		{func(m *vm.Machine, _ api.Value, _ []api.Value) (api.Value, bool) {
			m.Fail(1)
			m.Throw(num(2))
			return num(1), false
		}, "2 false | f | behind"},
		{func(m *vm.Machine, _ api.Value, _ []api.Value) (api.Value, bool) {
			v, ok := m.Get(null(), key("x"))
			m.Get(str("a"), key("length"))
			return v, ok
		}, "TypeError true | f | behind"},
		{func(m *vm.Machine, _ api.Value, args []api.Value) (api.Value, bool) {
			return m.Call(args[0], num(1), nil)
		}, "thrown false | f | behind"},
		{func(m *vm.Machine, _ api.Value, args []api.Value) (api.Value, bool) {
			v, ok := m.Call(args[0], num(1), nil)
			m.Call(args[1], num(1), nil)
			return v, ok
		}, "fine | thrown false | f | behind"},
		{func(m *vm.Machine, _ api.Value, args []api.Value) (api.Value, bool) {
			m.Call(args[0], num(1), nil)
			return m.Call(args[1], num(1), nil)
		}, "fine | 3 | f | behind"},
	} {
		m := machine(t, roomy)
		native(t, m, "f", x.f)
		run(t, m, "try { print(f(() => { throw 'thrown'; }, () => { print('fine'); return 3; })); } catch (e) { print(typeof e === 'object' ? e.name : e, e instanceof Error); } finally { print('f'); } print('behind');", x.want)
	}
}

// P21.9: Charge takes fuel.
func TestCharge(t *testing.T) {
	m := vm.New(api.Limits{Fuel: 100, Frames: 10, Cells: 1000}, nil)
	for _, x := range []struct {
		n, spent int
		ok       bool
	}{{0, 0, true}, {10, 10, true}, {-5, 10, true}, {math.MinInt, 10, true}, {89, 99, true}, {1, 100, true}, {0, 100, true}, {1, 100, false}, {0, 100, false}} {
		if ok := m.Charge(x.n); ok != x.ok || m.Spent() != x.spent {
			t.Errorf("%d: %v, %d", x.n, ok, m.Spent())
		}
	}
	m = vm.New(api.Limits{Fuel: 100, Frames: 10, Cells: 1000}, nil)
	if m.Charge(math.MaxInt) || m.Spent() != 100 || m.Source("").End != api.EndFuel {
		t.Errorf("%d", m.Spent())
	}
}

// P21.10: properties of any value.
func TestOwnAndFind(t *testing.T) {
	m := machine(t, roomy)
	m.Lay(obj(m.Proto(101)), "x", num(1))
	m.Lay(obj(m.Proto(101)), "length", num(9))
	m.Lay(obj(m.Proto(0)), "all", num(8))
	s := str("a\U0001F600")
	holdProp(t, m, s, key("length"), api.Prop{Value: num(3)})
	holdProp(t, m, s, key("0"), api.Prop{Value: str("a"), Flags: en})
	holdProp(t, m, s, key("1"), api.Prop{Value: api.Value{Kind: api.Text, Str: "\xd8\x3d"}, Flags: en})
	holdProp(t, m, api.Value{Kind: api.Text, Str: "\x00ax"}, api.Key{Name: key("length").Name + "y"}, api.Prop{Value: num(1)})
	for _, k := range []api.Key{key("3"), key("x"), key("00"), key("-1"), key(""), {Sym: 1}, {Sym: 1, Name: utf16("0")}} {
		if p, is := m.Own(s, k); is || p != (api.Prop{}) {
			t.Errorf("%+v: %+v", k, p)
		}
	}
	o := answer(t, m, "{ a: 1, get b() { throw 'no'; } }")
	holdProp(t, m, o, key("a"), api.Prop{Value: num(1), Flags: w | en | c})
	for _, x := range []struct {
		v  api.Value
		k  api.Key
		is bool
	}{
		{s, key("x"), true}, {s, key("length"), true}, {s, api.Key{Sym: 1}, true}, {s, key("y"), false}, {o, key("b"), true}, {o, key("c"), false}, {num(1), key("x"), false}, {null(), key("x"), false},
		{api.Value{}, key("x"), false}, {obj(-1), key("x"), false}, {obj(1 << 40), key("x"), false}, {symbolIterator, key("x"), false}, {null(), key("all"), false}, {api.Value{}, key("all"), false}, {num(1), key("all"), false}, {s, key("all"), true}, {api.Value{Kind: 77, Ref: 1}, key("all"), false}, {api.Value{Kind: 77, Ref: 1}, key("x"), false}, {answer(t, m, "[]"), key("values"), true},
	} {
		if _, is := m.Find(x.v, x.k); is != x.is {
			t.Errorf("%+v: %v", x, is)
		}
		if _, is := m.Own(x.v, x.k); is && !x.is {
			t.Errorf("own: %+v: %v", x, is)
		}
	}
	if p, _ := m.Find(s, key("length")); p != (api.Prop{Value: num(3)}) {
		t.Errorf("%+v", p)
	}
	if p, _ := m.Find(o, key("b")); p.Flags != api.Accessor|en|c || p.Get.Kind != api.Object || p.Set != (api.Value{}) {
		t.Errorf("%+v", p)
	}
}

// P21.10: 1000 objects along prototypes are looked at, as chapter 16 has it.
func TestFarPrototypes(t *testing.T) {
	m := machine(t, api.Limits{Fuel: 100000, Frames: 10, Cells: 10000})
	at := 0
	row := []api.Value{{}}
	for range 1003 {
		o, ok := m.Make(0, at)
		at = made(t, o, ok).Ref
		row = append(row, o)
	}
	m.Lay(row[1], "a", num(1))
	m.Lay(row[2], "b", num(2))
	for n, want := range map[int]bool{1: true, 999: true, 1000: true, 1001: false, 1002: false} {
		if _, is := m.Find(row[n], key("a")); is != want {
			t.Errorf("%d: %v", n, is)
		}
		if v, ok := m.Get(row[n], key("a")); !ok || (v == num(1)) != want {
			t.Errorf("%d: %+v", n, v)
		}
		m.Global("o", row[n])
		run(t, m, "print('a' in o, o.a);", map[bool]string{true: "true 1", false: "false undefined"}[want])
	}
	for n, want := range map[int]string{2: "true", 500: "true", 1003: "false"} {
		m.Global("o", row[n])
		m.Global("first", row[1])
		run(t, m, "function F() {} F.prototype = first; print(o instanceof F);", want)
	}
	m.Heap().SetProto(row[1].Ref, row[3].Ref) // a circle
	m.Global("o", row[5])
	run(t, m, "function F() {} print('z' in o, o.z, o instanceof F); for (const k in o) print(k); o.z = 1; print(o.z);", "false undefined false | 1")
}

// P21.10: calls, and what is got and set.
func TestCalls(t *testing.T) {
	m := machine(t, roomy)
	f := answer(t, m, "function (a, b) { return [this, a, b]; }")
	v, ok := m.Call(f, str("me"), []api.Value{num(1)})
	made(t, v, ok)
	for i, want := range []api.Value{str("me"), num(1), {}} {
		if x, ok := m.Get(v, key(string(rune('0'+i)))); x != want || !ok {
			t.Errorf("%d: %+v, %v", i, x, ok)
		}
	}
	for _, x := range []api.Value{{}, null(), num(1), str("f"), obj(0), obj(-1), obj(1 << 40), obj(m.Proto(2)), symbolIterator, {Kind: api.Object, Ref: math.MaxInt}, {Kind: api.Object, Ref: math.MinInt}, {Kind: 8, Ref: f.Ref}} {
		if v, ok := m.Call(x, x, []api.Value{x}); v != (api.Value{}) || ok || m.Is(x) {
			t.Errorf("%+v: %+v, %v", x, v, ok)
		}
		if v, ok := m.Build(x, nil); v != (api.Value{}) || ok {
			t.Errorf("%+v: %+v, %v", x, v, ok)
		}
	}
	if v, ok := m.Build(answer(t, m, "function (a) { this.a = a; }"), []api.Value{str("x")}); !ok {
		t.Error("not built")
	} else if x, ok := m.Get(v, key("a")); x != str("x") || !ok {
		t.Errorf("%+v, %v", x, ok)
	}
	for _, src := range []string{"() => 1", "print", "{}"} {
		if _, ok := m.Build(answer(t, m, src), nil); ok {
			t.Errorf("%s: built", src)
		}
	}
	args := []api.Value{num(1), num(2)}
	change, _ := m.Native("change", 0, func(_ *vm.Machine, _ api.Value, l []api.Value) (api.Value, bool) {
		l[0] = num(9)
		_ = append(l, num(8))
		return l[0], true
	})
	if v, ok := m.Call(change, api.Value{}, args[:1:2]); v != num(9) || !ok || !slices.Equal(args, []api.Value{num(1), num(2)}) {
		t.Errorf("%+v, %v, %+v", v, ok, args)
	}
}

// P21.10: Get, Set, Define.
func TestGetSetDefine(t *testing.T) {
	m := machine(t, roomy)
	o := answer(t, m, "{ a: 1, get b() { return this.a + 1; }, set c(v) { this.a = v; }, get d() { throw 'd'; }, set e(v) { throw v; } }")
	for name, want := range map[string]api.Value{"a": num(1), "b": num(2), "c": {}, "z": {}} {
		if v, ok := m.Get(o, key(name)); v != want || !ok {
			t.Errorf("%s: %+v, %v", name, v, ok)
		}
	}
	for _, v := range []api.Value{{}, null(), {Kind: 50}} {
		if _, ok := m.Get(v, key("a")); ok {
			t.Errorf("got of %+v", v)
		}
		if m.Set(v, key("a"), num(1)) {
			t.Errorf("set of %+v", v)
		}
		if is, ok := m.Define(v, key("a"), api.Desc{}); is || ok {
			t.Errorf("defined of %+v", v)
		}
	}
	if _, ok := m.Get(o, key("d")); ok || m.Set(o, key("e"), num(1)) || m.Set(o, key("b"), num(1)) || m.Set(num(1), key("a"), num(1)) || m.Set(str("a"), key("0"), num(1)) || m.Set(obj(-1), key("a"), num(1)) || m.Set(obj(1<<40), key("a"), num(1)) {
		t.Error("what throws")
	}
	if !m.Set(o, key("c"), str("set")) || !m.Set(o, key("n"), num(3)) {
		t.Error("not set")
	}
	holdProp(t, m, o, key("a"), api.Prop{Value: str("set"), Flags: w | en | c})
	holdProp(t, m, o, key("n"), api.Prop{Value: num(3), Flags: w | en | c})
	for _, x := range []struct {
		o      api.Value
		k      string
		d      api.Desc
		is, ok bool
	}{
		{o, "p", api.Desc{Has: api.HasValue, Prop: api.Prop{Value: num(1)}}, true, true},
		{o, "p", api.Desc{Has: api.HasValue, Prop: api.Prop{Value: num(2)}}, false, true},
		{o, "q", api.Desc{Has: api.HasValue | api.HasGet}, false, true},
		{o, "r", api.Desc{Has: 1 << 20}, false, true},
		{answer(t, m, "[1, 2]"), "length", api.Desc{Has: api.HasValue, Prop: api.Prop{Value: num(-1)}}, false, false},
		{answer(t, m, "[1, 2]"), "length", api.Desc{Has: api.HasValue, Prop: api.Prop{Value: num(1)}}, true, true},
		{num(1), "a", api.Desc{}, false, false}, {str("a"), "a", api.Desc{}, false, false}, {obj(-1), "a", api.Desc{}, false, false}, {api.Value{Kind: api.Symbol, Ref: o.Ref}, "s", api.Desc{}, false, false},
	} {
		if is, ok := m.Define(x.o, key(x.k), x.d); is != x.is || ok != x.ok {
			t.Errorf("%s, %+v: %v, %v", x.k, x.d, is, ok)
		}
	}
	native(t, m, "shorten", func(m *vm.Machine, _ api.Value, args []api.Value) (api.Value, bool) {
		is, ok := m.Define(args[0], key("length"), api.Desc{Has: api.HasValue, Prop: api.Prop{Value: args[1]}})
		return yes(is), ok
	})
	run(t, m, "print(shorten([1], 0)); try { shorten([1], 0.5); } catch (e) { print(e.name); } shorten(5, 0);", "true | RangeError throws TypeError")
}

// P21.11: values as primitives, numbers, texts, keys.
func TestConversions(t *testing.T) {
	m := machine(t, roomy)
	both := answer(t, m, "{ toString() { return 'text'; }, valueOf() { return 7; } }")
	for _, text := range []bool{true, false} {
		want := map[bool]api.Value{true: str("text"), false: num(7)}[text]
		if v, ok := m.Prim(both, text); v != want || !ok {
			t.Errorf("%v: %+v, %v", text, v, ok)
		}
		for _, v := range []api.Value{{}, null(), num(1), str("a"), yes(true), symbolIterator} {
			if p, ok := m.Prim(v, text); p != v || !ok {
				t.Errorf("%+v: %+v, %v", v, p, ok)
			}
		}
	}
	for _, x := range []struct {
		v       api.Value
		n       float64
		s       string
		k       api.Key
		is, isK bool
	}{
		{both, 7, "text", key("text"), true, true}, {api.Value{}, math.NaN(), "undefined", key("undefined"), true, true}, {null(), 0, "null", key("null"), true, true}, {yes(true), 1, "true", key("true"), true, true},
		{num(-0.5), -0.5, "-0.5", key("-0.5"), true, true}, {num(1.5), 1.5, "1.5", key("1.5"), true, true}, {num(4294967295.5), 4294967295.5, "4294967295.5", key("4294967295.5"), true, true}, {str(" 12 "), 12, " 12 ", key(" 12 "), true, true}, {symbolIterator, 0, "", api.Key{Sym: 1}, false, true}, {answer(t, m, "[]"), 0, "", api.Key{}, false, false},
		{answer(t, m, "{ toString() { throw 1; } }"), 0, "", api.Key{}, false, false}, {api.Value{Kind: 9, Num: 4}, math.NaN(), "undefined", key("undefined"), true, true}, {api.Value{Kind: api.Symbol}, 0, "", api.Key{}, false, false},
		{obj(-1), 0, "", api.Key{}, false, false}, {obj(1 << 40), 0, "", api.Key{}, false, false}, {num(4294967296), 4294967296, "4294967296", key("4294967296"), true, true}, {num(-1), -1, "-1", key("-1"), true, true},
		{num(1e21), 1e21, "1e+21", key("1e+21"), true, true}, {num(4294967295), 4294967295, "4294967295", key("4294967295"), true, true}, {num(math.Copysign(0, -1)), 0, "0", key("0"), true, true},
	} {
		n, isN := m.Number(x.v)
		s, isS := m.Text(x.v)
		k, isK := m.Key(x.v)
		if n != x.n && !(math.IsNaN(n) && math.IsNaN(x.n)) || s != utf16(x.s) || k != x.k || isN != x.is || isS != x.is || isK != x.isK {
			t.Errorf("%+v: %v %v, %s %v, %+v %v", x.v, n, isN, s, isS, k, isK)
		}
	}
}

// P21.12: Iterate.
func TestIterate(t *testing.T) {
	m := machine(t, roomy)
	gather := func(v api.Value, most int) (out []api.Value, ok bool) {
		ok = m.Iterate(v, func(x api.Value) bool {
			out = append(out, x)
			return len(out) < most
		})
		return out, ok
	}
	if l, ok := gather(str("a\U0001F600"), 9); !ok || !slices.Equal(l, []api.Value{str("a"), str("\U0001F600")}) {
		t.Errorf("%+v, %v", l, ok)
	}
	a := answer(t, m, "[1, 'b']")
	if l, ok := gather(a, 9); !ok || !slices.Equal(l, []api.Value{num(1), str("b")}) {
		t.Errorf("%+v, %v", l, ok)
	}
	if l, ok := gather(a, 1); !ok || !slices.Equal(l, []api.Value{num(1)}) {
		t.Errorf("%+v, %v", l, ok)
	}
	for _, v := range []api.Value{{}, null(), num(1), obj(-1), obj(m.Proto(0)), symbolIterator} {
		if l, ok := gather(v, 9); ok || l != nil {
			t.Errorf("%+v: %+v, %v", v, l, ok)
		}
	}
	if !m.Iterate(a, nil) {
		t.Error("nobody is told")
	}
	it := func(next, back string) api.Value {
		return answer(t, m, "{ [iterator]() { return this; }, next() { "+next+" }, return() { print('closed'); "+back+" } }")
	}
	closed := func(about string, ok, wantOk bool, want string) {
		t.Helper()
		before := strings.Count(told(m.Source("")), "closed")
		if ok != wantOk || map[bool]string{true: "closed"}[before > 0] != want {
			t.Errorf("%s: %v, %d times closed", about, ok, before)
		}
		m = machine(t, roomy)
	}
	const on = "return { value: 1, done: false };"
	_, ok := gather(it(on, "return {};"), 2)
	closed("left", ok, true, "closed")
	_, ok = gather(it(on, "return 1;"), 2)
	closed("left, and closing it goes wrong", ok, false, "closed")
	_, ok = gather(it("throw 1;", "return {};"), 2)
	closed("next throws", ok, false, "")
	_, ok = gather(it("return { done: true };", "return {};"), 2)
	closed("done", ok, true, "")
	ok = m.Iterate(it(on, "throw 'quiet';"), func(api.Value) bool { m.Throw(str("loud")); return false })
	closed("something was thrown", ok, false, "closed")
	ok = m.Iterate(it(on, "return {};"), func(api.Value) bool { m.Stop(); return false })
	closed("stopped", ok, false, "")
	n := 0
	ok = m.Iterate(it(on, "return {};"), func(api.Value) bool { m.Stop(); n++; return true })
	if closed("stopped, and on", ok, false, ""); n != 1 {
		t.Errorf("%d times told", n)
	}
	n = 0
	ok = m.Iterate(it(on, "return {};"), func(api.Value) bool { m.Throw(num(1)); n++; return n < 3 })
	closed("something was thrown, and on", ok, false, "closed")
	if n != 3 {
		t.Errorf("%d times told", n)
	}
	native(t, m, "first", func(m *vm.Machine, _ api.Value, args []api.Value) (api.Value, bool) {
		var v api.Value
		ok := m.Iterate(args[0], func(x api.Value) bool {
			var fine bool
			v, fine = m.Call(args[1], api.Value{}, []api.Value{x})
			return fine && false
		})
		return v, ok
	})
	run(t, m, "const by = r => ({ [iterator]() { return this; }, next() { return { value: 1 }; }, get return() { print('closed'); return r; } }); print(first(by(() => ({})), x => x + 1)); "+
		"try { first(by(() => { throw 'r'; }), x => x); } catch (e) { print(e); } try { first(by(() => { throw 'r'; }), x => { throw 'f'; }); } catch (e) { print(e); } print(first([7], x => x));",
		"closed | 2 | closed | r | closed | f | 7")
}

// P21.12: Iterator.
func TestIterator(t *testing.T) {
	m := machine(t, roomy)
	n := 0
	count := func() (api.Value, bool, bool) {
		n++
		return num(float64(n)), n > 3, true
	}
	it, ok := m.Iterator(count)
	m.Global("it", made(t, it, ok))
	if m.Heap().Class(it.Ref) != api.ClassIterator || m.Heap().Proto(it.Ref) != m.Proto(206) || len(m.Heap().Keys(it.Ref)) != 0 {
		t.Error("another object")
	}
	run(t, m, "print(it[iterator]() === it, it.next().value); for (const x of it) print(x); print(it.next().done, it.next().value);", "true 1 | 2 | 3 | true undefined")
	if n != 4 {
		t.Errorf("asked %d times", n)
	}
	fails, _ := m.Iterator(func() (api.Value, bool, bool) { m.Fail(api.RangeError); return num(1), false, false })
	m.Global("fails", fails)
	again, _ := m.Iterator(func() (api.Value, bool, bool) { n++; return api.Value{Kind: 44, Num: 3}, false, n%2 == 0 })
	m.Global("again", again)
	none, _ := m.Iterator(nil)
	m.Global("none", none)
	run(t, m, "for (const f of [() => { for (const x of fails) ; }, () => [...fails], () => fails.next(), () => { for (const x of again) ; }, () => print(again.next().value), () => again.next()]) try { f(); } catch (e) { print(typeof e === 'object' ? e.name : e); } print([...none].length);", "RangeError | RangeError | RangeError | undefined | undefined | undefined | 0")
	m.Lay(obj(m.Proto(101)), "next", answer(t, m, "() => ({ done: true })"))
	run(t, m, "try { for (const x of { [iterator]: () => 'text' }) print('no'); } catch (e) { print(e.name); } print([][iterator].length, [].values().next.length, [].values()[iterator].length, ''[iterator].length, input.length, [].values()[iterator].name, [].values().next.name);", "TypeError | 0 0 0 0 0 [Symbol.iterator] next")
	ends, _ := m.Iterator(func() (api.Value, bool, bool) { m.Stop(); return num(1), false, true })
	m.Global("ends", ends)
	run(t, m, "try { for (const x of ends) print(x); } finally { print('no'); }", "limit")
}

// P1: values, keys and objects that nobody made do no harm, in whatever call.
func TestStrangeValues(t *testing.T) {
	strange := []api.Value{{Kind: -1}, {Kind: 7, Ref: 1, Num: 2, Str: "abc"}, {Kind: 1 << 50}, {Kind: api.Bool, Num: 7}, {Kind: api.Text, Str: "odd"}, {Kind: api.Symbol}, {Kind: api.Symbol, Ref: -3}, {Kind: api.Symbol, Ref: 1 << 40}, obj(0), obj(-7), obj(1 << 40), {Kind: api.Object, Ref: math.MaxInt}, {Kind: api.Number, Num: math.NaN(), Ref: 4}, {Kind: api.Undefined, Str: "x"}}
	m := machine(t, api.Limits{Fuel: 1 << 30, Frames: 50, Cells: 100000})
	id := native(t, m, "id", func(_ *vm.Machine, _ api.Value, args []api.Value) (api.Value, bool) { return args[0], true })
	keys := []api.Key{{}, {Name: "odd"}, {Sym: -1}, {Sym: 1 << 40}, {Sym: 1, Name: "x"}, key("length"), key("0")}
	o := answer(t, m, "{}")
	for _, v := range strange {
		for _, k := range keys {
			m.Own(v, k)
			m.Find(v, k)
			m.Get(v, k)
			m.Set(v, k, v)
			m.Set(o, k, v)
			m.Define(v, k, api.Desc{Has: 63, Prop: api.Prop{Value: v, Get: v, Set: v, Flags: -1}})
			m.Define(o, k, api.Desc{Has: api.HasGet | api.HasSet | api.HasConfigurable, Prop: api.Prop{Get: v, Set: v, Flags: c}})
			m.Get(o, k)
			m.Set(o, k, v)
		}
		m.Heap().Put(o.Ref, key("raw"), api.Prop{Value: v, Flags: w | en | c})
		m.Global("v", v)
		m.Global("o", o)
		if o := m.Source("for (const x of [v, o.raw]) for (const f of [() => x + 1, () => x + '', () => x * 2, () => x.y, () => x[0], () => x == x, () => x === x, () => typeof x, () => !x, () => -x, () => `${x}`, () => ({ [x]: x }), () => x in x, () => x instanceof x, () => x(), () => new x(), () => [...x], () => { for (const k in x) ; }, () => delete x.y, () => { x.y = x; }, () => print(id(x)), () => { throw x; }]) try { f(); } catch (e) { } v;"); o.End != api.EndNormal {
			t.Errorf("%+v: %s", v, told(o))
		}
		m.Call(v, v, []api.Value{v})
		m.Call(id, v, []api.Value{v})
		m.Build(v, []api.Value{v})
		m.Prim(v, true)
		m.Number(v)
		m.Text(v)
		m.Key(v)
		m.Iterate(v, func(api.Value) bool { return true })
		m.Show(v)
		m.Is(v)
		m.About(v)
		m.Lay(v, "x", v)
		m.Throw(v)
		m.Make(v.Kind, v.Ref)
		m.Give(v.Kind, v.Ref)
		m.Proto(v.Ref)
	}
	m.Heap().Put(o.Ref, key("length"), api.Prop{Value: obj(-4), Flags: w})
	run(t, m, "print(typeof o.length);", "object")
}

// P2: what is told is in memory of its own.
func TestLibraryMemory(t *testing.T) {
	m := machine(t, roomy)
	long := str("a long text of its own")
	at := func(s api.Str) *byte { return unsafe.StringData(string(s)) }
	m.Global("x", long)
	o, _ := m.Make(0, 0)
	m.Set(o, key("x"), long)
	a, _ := m.Get(o, key("x"))
	b, _ := m.Get(o, key("x"))
	p, _ := m.Prim(long, true)
	s, _ := m.Text(long)
	k, _ := m.Key(long)
	f := native(t, m, "f", func(_ *vm.Machine, _ api.Value, args []api.Value) (api.Value, bool) { return args[0], true })
	v, _ := m.Call(f, api.Value{}, []api.Value{long})
	sym, _ := m.Symbol(long.Str)
	about := m.About(api.Value{Kind: api.Symbol, Ref: sym.Sym})
	seen := map[*byte]string{at(long.Str): "the text itself"}
	for name, s := range map[string]api.Str{"Get": a.Str, "Get again": b.Str, "Prim": p.Str, "Text": s, "Key": k.Name, "Call": v.Str, "About": about} {
		if s != long.Str || seen[at(s)] != "" {
			t.Errorf("%s shares with %s", name, seen[at(s)])
		}
		seen[at(s)] = name
	}
}

// P21.2, P21.9: the library may run further modules while one is under way, but not so forever.
func TestRunWithin(t *testing.T) {
	m := machine(t, api.Limits{Fuel: 100000, Frames: 1000, Cells: 100000})
	var inner api.Outcome
	native(t, m, "source", func(m *vm.Machine, _ api.Value, args []api.Value) (api.Value, bool) {
		s := ""
		for _, u := range args[0].Str {
			if u != 0 {
				s += string(u)
			}
		}
		inner = m.Source(s)
		return str(inner.Value), inner.End != api.EndThrow
	})
	run(t, m, "1; print(source('print(2); 3;')); 4;", "2 | 3")
	for src, want := range map[string]string{"6;": "6", "let x;": "undefined"} {
		if o := m.Source("5; let x = source('" + src + "');"); o.Value != "5" || inner.Value != want {
			t.Errorf("%s: %s, %s", src, o.Value, inner.Value)
		}
	}
	run(t, m, "try { source('throw 7;'); } catch (e) { print(e); }", "undefined")
	native(t, m, "again", func(m *vm.Machine, _ api.Value, _ []api.Value) (api.Value, bool) {
		return api.Value{}, m.Source("again();").End == api.EndNormal
	})
	run(t, m, "again();", "limit")
}

// P21.8: Heap is the one in which all is.
func TestHeap(t *testing.T) {
	m := machine(t, roomy)
	var h *heap.Heap = m.Heap()
	if h != m.Heap() || h.Used() == 0 {
		t.Error("another heap")
	}
	list, _ := array.List(h, m.Proto(1), []api.Value{num(1), str("b")})
	m.Global("l", obj(list))
	run(t, m, "print(l.length, ...l); l[5] = 1; print(l.length);", "2 1 b | 6")
}

// P1: a panic of a function that is given is whoever gave it's own.
func TestPanicOfOthers(t *testing.T) {
	m := machine(t, roomy)
	native(t, m, "f", func(*vm.Machine, api.Value, []api.Value) (api.Value, bool) { panic("mine") })
	for _, do := range []func(){func() { m.Source("try { f(); } catch (e) { }") }, func() { m.Iterate(str("a"), func(api.Value) bool { panic("mine") }) }} {
		func() {
			defer func() {
				if p := recover(); p != "mine" {
					t.Errorf("%v", p)
				}
			}()
			do()
		}()
	}
}
