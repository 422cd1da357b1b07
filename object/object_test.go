package object_test

import (
	"math"
	"math/rand"
	"slices"
	"strconv"
	"testing"
	"unsafe"

	"lintel/api"
	"lintel/heap"
	"lintel/keys"
	"lintel/object"
)

// text is the key of a text of ASCII.
func text(s string) api.Key {
	b := make([]byte, 0, 2*len(s))
	for i := range len(s) {
		b = append(b, 0, s[i])
	}
	return api.Key{Name: api.Str(b)}
}

func number(x float64) api.Value { return api.Value{Kind: api.Number, Num: x} }

// reference is the value that is an object.
func reference(o int) api.Value { return api.Value{Kind: api.Object, Ref: o} }

const (
	w   = api.Writable
	en  = api.Enumerable
	c   = api.Configurable
	acc = api.Accessor
)

// valued names a value and nothing else.
func valued(v api.Value) api.Desc { return api.Desc{Has: api.HasValue, Prop: api.Prop{Value: v}} }

// P16.1: the document's example.
func TestExample(t *testing.T) {
	h := heap.New(9)
	h.Make(0, 0)
	if ok, e := object.Define(h, 1, text("x"), valued(number(1))); !ok || e != api.OK {
		t.Fatalf("Define: %v, error %d", ok, e)
	}
	if p, is := h.Own(1, text("x")); !is || p != (api.Prop{Value: number(1)}) {
		t.Errorf("Own: %+v, %v", p, is)
	}
	if ok, e := object.Define(h, 1, text("x"), valued(number(2))); ok || e != api.OK {
		t.Errorf("another value: %v, error %d", ok, e)
	}
	if p, _ := h.Own(1, text("x")); p != (api.Prop{Value: number(1)}) {
		t.Errorf("Own behind that: %+v", p)
	}
}

// mergeCase is what Merge answers; to is what comes of it, if may.
type mergeCase struct {
	name string
	was  api.Prop
	d    api.Desc
	may  bool
	to   api.Prop
}

func (c mergeCase) hold(t *testing.T, is, open bool) {
	t.Helper()
	if p, may := object.Merge(c.was, is, open, c.d); may != c.may || !sameProp(p, c.to) {
		t.Errorf("%s: %+v, %v, not %+v, %v", c.name, p, may, c.to, c.may)
	}
}

// P16.1: nothing stood there.
func TestMergeNew(t *testing.T) {
	f, g := reference(1), reference(2)
	full := api.Prop{Value: number(1), Get: f, Set: g, Flags: w | en | c | acc}
	for _, x := range []mergeCase{
		{"nothing", full, api.Desc{}, true, api.Prop{}},
		{"nothing is named, all is set", full, api.Desc{Prop: full}, true, api.Prop{}},
		{"value", full, api.Desc{Has: api.HasValue, Prop: full}, true, api.Prop{Value: number(1)}},
		{"Writable", full, api.Desc{Has: api.HasWritable, Prop: full}, true, api.Prop{Flags: w}},
		{"Writable, not set", full, api.Desc{Has: api.HasWritable}, true, api.Prop{}},
		{"get", full, api.Desc{Has: api.HasGet, Prop: full}, true, api.Prop{Get: f, Flags: acc}},
		{"set", full, api.Desc{Has: api.HasSet, Prop: full}, true, api.Prop{Set: g, Flags: acc}},
		{"set that is undefined", full, api.Desc{Has: api.HasSet}, true, api.Prop{Flags: acc}},
		{"get and set", full, api.Desc{Has: api.HasGet | api.HasSet | api.HasEnumerable, Prop: full}, true, api.Prop{Get: f, Set: g, Flags: acc | en}},
		{"all of a value", full, api.Desc{Has: 1 | 2 | 16 | 32, Prop: full}, true, api.Prop{Value: number(1), Flags: w | en | c}},
		{"Configurable", full, api.Desc{Has: 32, Prop: full}, true, api.Prop{Flags: c}},
		{"both sorts", full, api.Desc{Has: api.HasWritable | api.HasSet}, false, api.Prop{}},
		{"another bit", full, api.Desc{Has: 1 | 64, Prop: full}, false, api.Prop{}},
	} {
		x.hold(t, false, true)
		x.may, x.to = false, api.Prop{}
		x.hold(t, false, false)
	}
}

// P16.1: what stood there is Configurable. Whether new ones may come is not asked.
func TestMergeConfigurable(t *testing.T) {
	f, g := reference(1), reference(2)
	value := api.Prop{Value: number(1), Flags: w | en | c}
	accessor := api.Prop{Get: f, Set: g, Flags: acc | en | c}
	for _, x := range []mergeCase{
		{"nothing", value, api.Desc{}, true, value},
		{"another value", value, valued(number(2)), true, api.Prop{Value: number(2), Flags: w | en | c}},
		{"to not Writable", value, api.Desc{Has: 2}, true, api.Prop{Value: number(1), Flags: en | c}},
		{"a value that is not Writable", api.Prop{Value: number(1), Flags: c}, valued(number(2)), true, api.Prop{Value: number(2), Flags: c}},
		{"Writable again", api.Prop{Value: number(1), Flags: c}, api.Desc{Has: 2, Prop: api.Prop{Flags: w}}, true, api.Prop{Value: number(1), Flags: c | w}},
		{"to no flags", value, api.Desc{Has: 2 | 16 | 32}, true, api.Prop{Value: number(1)}},
		{"value to accessor", value, api.Desc{Has: 8, Prop: api.Prop{Set: g}}, true, api.Prop{Set: g, Flags: acc | en | c}},
		{"value to accessor, flags named", value, api.Desc{Has: 4 | 16 | 32}, true, api.Prop{Flags: acc}},
		{"accessor to value", accessor, valued(number(3)), true, api.Prop{Value: number(3), Flags: en | c}},
		{"accessor to Writable", accessor, api.Desc{Has: 2, Prop: api.Prop{Flags: w}}, true, api.Prop{Flags: w | en | c}},
		{"another get", accessor, api.Desc{Has: 4, Prop: api.Prop{Get: g}}, true, api.Prop{Get: g, Set: g, Flags: acc | en | c}},
		{"no set", accessor, api.Desc{Has: 8}, true, api.Prop{Get: f, Flags: acc | en | c}},
		{"accessor, flags alone", accessor, api.Desc{Has: 16}, true, api.Prop{Get: f, Set: g, Flags: acc | c}},
		{"both sorts", value, api.Desc{Has: 1 | 8}, false, api.Prop{}},
	} {
		x.hold(t, true, true)
		x.hold(t, true, false)
	}
}

// P16.1, P16.7: what stood there is not Configurable.
func TestMergeNotConfigurable(t *testing.T) {
	f, g := reference(1), reference(2)
	fixed := api.Prop{Value: number(1), Flags: en}
	writable := api.Prop{Value: number(1), Flags: w}
	accessor := api.Prop{Get: f, Set: g, Flags: acc}
	for _, x := range []mergeCase{
		{"nothing", fixed, api.Desc{}, true, fixed},
		{"just what stands there", fixed, api.Desc{Has: 1 | 2 | 16 | 32, Prop: fixed}, true, fixed},
		{"Configurable", fixed, api.Desc{Has: 32, Prop: api.Prop{Flags: c}}, false, api.Prop{}},
		{"Configurable of a Writable one", writable, api.Desc{Has: 32, Prop: api.Prop{Flags: c}}, false, api.Prop{}},
		{"not Enumerable", fixed, api.Desc{Has: 16}, false, api.Prop{}},
		{"Enumerable", writable, api.Desc{Has: 16, Prop: api.Prop{Flags: en}}, false, api.Prop{}},
		{"Writable", fixed, api.Desc{Has: 2, Prop: api.Prop{Flags: w}}, false, api.Prop{}},
		{"another value", fixed, valued(number(2)), false, api.Prop{}},
		{"another value of a Writable one", writable, valued(number(2)), true, api.Prop{Value: number(2), Flags: w}},
		{"not Writable any more, and another value", writable, api.Desc{Has: 1 | 2, Prop: api.Prop{Value: number(2)}}, true, api.Prop{Value: number(2)}},
		{"Writable as before", writable, api.Desc{Has: 2 | 32, Prop: api.Prop{Flags: w}}, true, writable},
		{"to an accessor", writable, api.Desc{Has: 4}, false, api.Prop{}},
		{"to a value", accessor, api.Desc{Has: 2}, false, api.Prop{}},
		{"the same get", accessor, api.Desc{Has: 4, Prop: api.Prop{Get: f}}, true, accessor},
		{"another get", accessor, api.Desc{Has: 4, Prop: api.Prop{Get: g}}, false, api.Prop{}},
		{"another set", accessor, api.Desc{Has: 8, Prop: api.Prop{Set: f}}, false, api.Prop{}},
		{"no set", accessor, api.Desc{Has: 8}, false, api.Prop{}},
		{"the same both", accessor, api.Desc{Has: 4 | 8 | 16 | 32, Prop: accessor}, true, accessor},
	} {
		x.hold(t, true, true)
		x.hold(t, true, false)
	}
}

// P16.1: Merge as its words say, of all flags and names.
func TestMergeAll(t *testing.T) {
	values := []api.Value{{}, number(0), reference(1)}
	for n := range 16 * 64 * 16 {
		flags, has, sets := n%16, n/16%64, n/16/64
		for i, v := range values {
			for j, u := range values {
				was := api.Prop{Flags: flags}
				if flags < acc {
					was.Value = v
				} else {
					was.Get, was.Set = v, values[2-i]
				}
				d := api.Desc{Has: has, Prop: api.Prop{Value: u, Get: u, Set: values[2-j], Flags: sets}}
				for state := range 3 {
					is, open := state < 2, state != 1
					p, may := object.Merge(was, is, open, d)
					if want, wantMay := wordsMerge(was, is, open, d); may != wantMay || p != want {
						t.Fatalf("Merge(%+v, %v, %v, %+v): %+v, %v, not %+v, %v", was, is, open, d, p, may, want, wantMay)
					}
				}
			}
		}
	}
}

// P16.1: a description that names both sorts, or something else than the six, is none whatever stood there.
func TestMergeNoDescription(t *testing.T) {
	for _, has := range []int{1 | 4, 1 | 8, 2 | 4, 2 | 8, 63, 64, 128, 1 << 40, -1, math.MinInt, math.MaxInt, 64 | 1} {
		for flags := range 16 {
			for state := range 4 {
				if p, may := object.Merge(api.Prop{Flags: flags}, state&1 == 0, state&2 == 0, api.Desc{Has: has}); may || p != (api.Prop{}) {
					t.Errorf("Has %d: %+v, %v", has, p, may)
				}
			}
		}
	}
}

// P16.1: which values are alike: told by what is not Writable and not Configurable.
func TestAlike(t *testing.T) {
	l := append(someValues(), number(math.Inf(1)), number(math.Inf(-1)), api.Value{Kind: api.Text, Str: text("b").Name}, api.Value{Kind: api.Text, Str: text("aa").Name}, reference(0), api.Value{Kind: api.Symbol})
	for i, v := range l {
		for j, u := range l {
			if _, may := object.Merge(api.Prop{Value: v}, true, true, valued(u)); may != (i == j) {
				t.Errorf("%+v and %+v: %v", v, u, may)
			}
			get := api.Desc{Has: api.HasGet, Prop: api.Prop{Get: u}}
			if _, may := object.Merge(api.Prop{Get: v, Flags: acc}, true, true, get); may != (i == j) {
				t.Errorf("get %+v and %+v: %v", v, u, may)
			}
			set := api.Desc{Has: api.HasSet, Prop: api.Prop{Set: u}}
			if _, may := object.Merge(api.Prop{Set: v, Flags: acc}, true, true, set); may != (i == j) {
				t.Errorf("set %+v and %+v: %v", v, u, may)
			}
		}
	}
}

// P16.1, P16.6: values that are alike but not the same in all bits: an odd byte, another NaN, fields that say nothing. What stays, stays to the last bit.
func TestAlikeNotEqual(t *testing.T) {
	a := text("a").Name
	otherNaN := math.Float64frombits(math.Float64bits(math.NaN()) ^ 1<<63 ^ 2)
	for _, l := range [][2]api.Value{
		{{Kind: api.Text, Str: a}, {Kind: api.Text, Str: a + "x"}},
		{{Kind: api.Text, Str: a}, {Kind: api.Text, Str: a, Num: 1, Ref: 1}},
		{number(math.NaN()), number(otherNaN)},
		{number(1), {Kind: api.Number, Num: 1, Str: a, Ref: 1}},
		{{}, {Num: 1, Str: a, Ref: 1}},
		{{Kind: api.Null}, {Kind: api.Null, Num: 1, Str: a, Ref: 1}},
		{{Kind: api.Bool, Num: 1}, {Kind: api.Bool, Num: 1, Str: a, Ref: 1}},
		{{Kind: api.Symbol, Ref: 1}, {Kind: api.Symbol, Ref: 1, Num: 1, Str: a}},
		{reference(1), {Kind: api.Object, Ref: 1, Num: 1, Str: a}},
	} {
		for i := range l {
			was, d := l[i], l[1-i]
			if p, may := object.Merge(api.Prop{Value: was}, true, true, valued(d)); !may || !sameBits(p.Value, was) {
				t.Errorf("%+v by %+v: %+v, %v", was, d, p.Value, may)
			}
			accessor := api.Desc{Has: 4 | 8, Prop: api.Prop{Get: d, Set: d}}
			if p, may := object.Merge(api.Prop{Get: was, Set: was, Flags: acc}, true, true, accessor); !may || !sameBits(p.Get, was) || !sameBits(p.Set, was) {
				t.Errorf("accessor %+v by %+v: %+v, %v", was, d, p, may)
			}
			for _, flags := range []int{w, c, w | c} {
				if p, may := object.Merge(api.Prop{Value: was, Flags: flags}, true, true, valued(d)); !may || !sameBits(p.Value, d) {
					t.Errorf("flags %d: %+v by %+v: %+v, %v", flags, was, d, p.Value, may)
				}
			}
		}
	}
}

func sameBits(a, b api.Value) bool {
	return a.Kind == b.Kind && math.Float64bits(a.Num) == math.Float64bits(b.Num) && a.Str == b.Str && a.Ref == b.Ref
}

// P16.1, P6: fields that the property's sort does not name come to nothing.
func TestMergeOtherFields(t *testing.T) {
	f, g := reference(1), reference(2)
	full := api.Prop{Value: number(1), Get: f, Set: g}
	for flags := range 16 {
		was := full
		was.Flags = flags
		want := api.Prop{Value: number(1), Flags: flags}
		if flags >= acc {
			want = api.Prop{Get: f, Set: g, Flags: flags}
		}
		if p, may := object.Merge(was, true, true, api.Desc{Prop: full}); !may || p != want {
			t.Errorf("%+v: %+v, %v", was, p, may)
		}
	}
}

// P2: what Merge answers shares no memory with what it was given.
func TestMergeMemory(t *testing.T) {
	v := func() api.Value { return api.Value{Kind: api.Text, Str: text("a long text of its own").Name} }
	at := func(v api.Value) *byte { return unsafe.StringData(string(v.Str)) }
	was, d := api.Prop{Value: v(), Flags: w | c}, api.Desc{Has: 1, Prop: api.Prop{Value: v()}}
	if p, _ := object.Merge(was, true, true, d); at(p.Value) == at(d.Prop.Value) || p.Value != d.Prop.Value {
		t.Error("the description's value is shared")
	}
	if p, _ := object.Merge(was, true, true, api.Desc{}); at(p.Value) == at(was.Value) || p.Value != was.Value {
		t.Error("the value that stood there is shared")
	}
	was, d = api.Prop{Get: v(), Set: v(), Flags: acc | c}, api.Desc{Has: 4 | 8, Prop: api.Prop{Get: v(), Set: v()}}
	if p, _ := object.Merge(was, true, true, d); at(p.Get) == at(d.Prop.Get) || at(p.Set) == at(d.Prop.Set) || p.Get != d.Prop.Get || p.Set != d.Prop.Set {
		t.Error("the description's get, set are shared")
	}
	if p, _ := object.Merge(was, true, true, api.Desc{}); at(p.Get) == at(was.Get) || at(p.Set) == at(was.Set) || p.Get != was.Get || p.Set != was.Set {
		t.Error("the get, set that stood there are shared")
	}
	h := heap.New(9)
	h.Make(0, 0)
	if ok, _ := object.Define(h, 1, text("x"), api.Desc{Has: 63 &^ 12, Prop: api.Prop{Value: v(), Flags: 7}}); !ok {
		t.Fatal("Define")
	}
	_, p, _ := object.Find(h, 1, text("x"))
	if _, q, _ := object.Find(h, 1, text("x")); at(p.Value) == at(q.Value) {
		t.Error("two answers of Find share memory")
	}
	object.Define(h, 1, text("y"), api.Desc{Has: 8, Prop: api.Prop{Set: v()}})
	_, s, _ := object.Set(h, 1, text("y"), v(), 1)
	if _, again, _ := object.Set(h, 1, text("y"), v(), 1); at(s) == at(again) || s != again {
		t.Error("two answers of Set share memory")
	}
}

// noHeaps are heaps that nobody made.
func noHeaps() []*heap.Heap {
	made := heap.New(10)
	made.Make(0, 0)
	copied := *made
	return []*heap.Heap{nil, {}, &copied}
}

// P16.1 to P16.5: heaps that nobody made, and objects that are not there.
func TestNothingThere(t *testing.T) {
	made := heap.New(10)
	made.Make(0, 0)
	made.Put(1, text("a"), api.Prop{Flags: 7})
	for i, h := range append(noHeaps(), made) {
		for _, o := range []int{0, -1, 2, 1, math.MinInt, math.MaxInt} {
			if h == made && o == 1 {
				continue
			}
			if ok, e := object.Define(h, o, text("a"), api.Desc{Has: 64}); ok || e != api.ErrObject {
				t.Errorf("%d: Define of %d: %v, error %d", i, o, ok, e)
			}
			if at, p, is := object.Find(h, o, text("a")); at != 0 || is || p != (api.Prop{}) {
				t.Errorf("%d: Find of %d: %d, %+v, %v", i, o, at, p, is)
			}
			for _, l := range [][2]int{{o, 1}, {1, o}, {o, o}} {
				if how, v, e := object.Set(h, l[0], text("a"), number(1), l[1]); how != 0 || v != (api.Value{}) || e != api.ErrObject {
					t.Errorf("%d: Set of %d: %d, %+v, error %d", i, l, how, v, e)
				}
			}
			if !object.Delete(h, o, text("a")) {
				t.Errorf("%d: Delete of %d", i, o)
			}
			if object.SetProto(h, o, 0) || object.SetProto(h, o, 1) || o != 0 && object.SetProto(h, 1, o) {
				t.Errorf("%d: SetProto of %d", i, o)
			}
			if object.Seal(h, o) != api.ErrObject || object.Freeze(h, o) != api.ErrObject || object.Sealed(h, o) || object.Frozen(h, o) {
				t.Errorf("%d: Seal, Freeze, Sealed, Frozen of %d", i, o)
			}
		}
	}
	if p, is := made.Own(1, text("a")); !is || p != (api.Prop{Flags: 7}) || made.Used() != 2 || !made.Open(1) || made.Proto(1) != 0 {
		t.Errorf("the heap has changed: %+v, %v", p, is)
	}
}

// P16.1, P4: Define's errors and their order; a call that answers one has changed nothing.
func TestDefine(t *testing.T) {
	p := newPair(4, 2)
	p.define(t, 1, text("a"), api.Desc{Has: 1 | 2 | 16 | 32, Prop: api.Prop{Value: number(1), Flags: 7}})
	p.define(t, 1, text("b"), valued(number(2)))
	p.check(t)
	if ok, e := object.Define(p.got, 1, text("c"), valued(number(3))); ok || e != api.ErrHeap {
		t.Errorf("no room: %v, error %d", ok, e)
	}
	if ok, e := object.Define(p.got, 1, text("c"), api.Desc{Has: 1 | 4}); ok || e != api.OK {
		t.Errorf("no room, no description: %v, error %d", ok, e)
	}
	if ok, e := object.Define(p.got, 3, text("c"), api.Desc{Has: 1 | 4}); ok || e != api.ErrObject {
		t.Errorf("no object: %v, error %d", ok, e)
	}
	p.check(t)
	for _, d := range []api.Desc{valued(number(4)), {Has: 2}, {Has: 8, Prop: api.Prop{Set: reference(2)}}, {Has: 1 | 32}} { // what is there needs no room
		if !p.define(t, 1, text("a"), d) {
			t.Errorf("refused: %+v", d)
		}
		p.check(t)
	}
	p.got.Shut(1)
	p.want.Shut(1)
	if ok, e := object.Define(p.got, 1, text("c"), valued(number(3))); ok || e != api.OK {
		t.Errorf("no room, shut: %v, error %d", ok, e)
	}
	p.check(t)
}

// P16.1: keys alike are one; a key's other field and an odd byte say nothing.
func TestDefineKeys(t *testing.T) {
	p := newPair(20, 1)
	for _, k := range []api.Key{text("a"), {Name: text("a").Name + "x"}, {Name: text("a").Name, Sym: -1}, {Sym: 1}, {Sym: 1, Name: text("a").Name}, {}, {Name: "x"}, keys.Of(0), text("0"), text("00")} {
		p.define(t, 1, k, api.Desc{Has: 1 | 2, Prop: api.Prop{Value: number(1), Flags: w}})
		p.set(t, 1, k, number(2), 1)
		p.check(t)
	}
	if n := len(p.got.Keys(1)); n != 5 {
		t.Errorf("%d keys", n)
	}
}

// row is a heap with n objects in a row: each one's prototype is the one ahead of it, so that a walk from n on ends at 1.
func row(n int) *heap.Heap {
	h := heap.New(n + 10)
	for i := range n {
		h.Make(0, i)
	}
	return h
}

// P16.2: 1000 objects are looked at, and no more.
func TestFindFar(t *testing.T) {
	h := row(1002)
	h.Put(1, text("a"), api.Prop{Value: number(1)})
	h.Put(2, text("b"), api.Prop{Value: number(2)})
	for _, x := range []struct {
		o    int
		k    string
		want int
	}{{1, "a", 1}, {2, "a", 1}, {999, "a", 1}, {1000, "a", 1}, {1001, "a", 0}, {1002, "a", 0}, {1001, "b", 2}, {1002, "b", 0}, {1, "b", 0}} {
		at, p, is := object.Find(h, x.o, text(x.k))
		if at != x.want || is != (x.want != 0) || is && p.Value.Num != float64(x.want) || !is && p != (api.Prop{}) {
			t.Errorf("Find(%d, %s): %d, %+v, %v", x.o, x.k, at, p, is)
		}
	}
	if how, _, _ := object.Set(h, 1001, text("a"), number(3), 1001); how != api.SetDone { // what isn't Writable lies too far
		t.Errorf("Set from afar: %d", how)
	}
	if how, _, _ := object.Set(h, 1000, text("a"), number(3), 1000); how != api.SetRefused {
		t.Errorf("Set: %d", how)
	}
}

// P16.2, P16.4, P1: prototypes that go in a circle.
func TestCircles(t *testing.T) {
	for n := 1; n < 5; n++ {
		h := row(n + 1)
		h.SetProto(1, n) // a circle of n, and one more at its side
		h.SetProto(n+1, n)
		for o := 1; o <= n+1; o++ {
			if at, _, is := object.Find(h, o, text("a")); at != 0 || is {
				t.Errorf("circle of %d: Find: %d", n, at)
			}
			if how, _, e := object.Set(h, o, text("b"), number(1), n+1); how != api.SetDone || e != api.OK {
				t.Errorf("circle of %d: Set: %d, error %d", n, how, e)
			}
		}
		h.Make(0, 0)
		if !object.SetProto(h, n+2, n) || object.SetProto(h, n, n+2) || !object.SetProto(h, n+1, n+2) {
			t.Errorf("circle of %d: SetProto", n)
		}
	}
}

// P16.3: what Set does to each sort of property, its own and its prototype's.
func TestSet(t *testing.T) {
	f := reference(1)
	for _, x := range []struct {
		name           string
		own, proto     api.Prop
		isOwn, isProto bool
		want           int
	}{
		{"none", api.Prop{}, api.Prop{}, false, false, api.SetDone},
		{"Writable", api.Prop{Flags: w}, api.Prop{}, true, false, api.SetDone},
		{"not Writable", api.Prop{Flags: en | c}, api.Prop{}, true, false, api.SetRefused},
		{"setter", api.Prop{Set: f, Flags: acc}, api.Prop{}, true, false, api.SetCall},
		{"getter", api.Prop{Get: f, Flags: acc | w}, api.Prop{}, true, false, api.SetRefused},
		{"Writable ahead of none that is", api.Prop{Flags: w | c}, api.Prop{Flags: en}, true, true, api.SetDone},
		{"the prototype's Writable", api.Prop{}, api.Prop{Flags: w}, false, true, api.SetDone},
		{"the prototype's not Writable", api.Prop{}, api.Prop{Flags: en | c}, false, true, api.SetRefused},
		{"the prototype's setter", api.Prop{}, api.Prop{Set: f, Flags: acc}, false, true, api.SetCall},
		{"the prototype's getter", api.Prop{}, api.Prop{Get: f, Flags: acc}, false, true, api.SetRefused},
	} {
		p := newPair(9, 2)
		p.setProto(t, 2, 1)
		if x.isOwn {
			p.put(2, text("a"), x.own)
		}
		if x.isProto {
			p.put(1, text("a"), x.proto)
		}
		if how := p.set(t, 2, text("a"), number(5), 2); how != x.want {
			t.Errorf("%s: %d", x.name, how)
		}
		p.check(t)
		if now, _ := p.got.Own(2, text("a")); x.want == api.SetDone && now.Value != number(5) {
			t.Errorf("%s: %+v", x.name, now)
		}
		if now, _ := p.got.Own(1, text("a")); now != x.proto {
			t.Errorf("%s: the prototype's: %+v", x.name, now)
		}
	}
}

// P16.3: a receiver that is another object than the one that is asked, of which it may be that it has nothing to do with it.
func TestSetReceiver(t *testing.T) {
	f := reference(1)
	props := []api.Prop{{Flags: w}, {Flags: w | en | c}, {Flags: en | c}, {Flags: 0}, {Set: f, Flags: acc}, {Get: f, Flags: acc | c}, {Set: f, Flags: acc | w | c}}
	for i := -1; i < len(props); i++ {
		for j := -1; j < len(props); j++ {
			for shut := range 2 {
				p := newPair(9, 2)
				if i >= 0 {
					p.put(1, text("a"), props[i])
				}
				if j >= 0 {
					p.put(2, text("a"), props[j])
				}
				if shut == 1 {
					p.got.Shut(2)
					p.want.Shut(2)
				}
				p.set(t, 1, text("a"), number(5), 2)
				p.check(t)
			}
		}
	}
}

// P16.3, P4: no room for a new property; what is there needs none.
func TestSetNoRoom(t *testing.T) {
	p := newPair(3, 2)
	if p.set(t, 1, text("a"), number(1), 1) != api.SetDone || p.set(t, 1, text("a"), number(2), 1) != api.SetDone {
		t.Error("Set")
	}
	if how, v, e := object.Set(p.got, 1, text("b"), number(1), 1); how != 0 || v != (api.Value{}) || e != api.ErrHeap {
		t.Errorf("no room: %d, %+v, error %d", how, v, e)
	}
	if how, v, e := object.Set(p.got, 1, text("a"), number(1), 2); how != 0 || v != (api.Value{}) || e != api.ErrHeap {
		t.Errorf("no room: %d, %+v, error %d", how, v, e)
	}
	p.check(t)
	p.got.Shut(2)
	if how, _, e := object.Set(p.got, 1, text("a"), number(1), 2); how != api.SetRefused || e != api.OK {
		t.Errorf("no room, shut: %d, error %d", how, e)
	}
}

// P16.3: a setter that is no object but not undefined is told, too.
func TestSetOddSetter(t *testing.T) {
	h := heap.New(9)
	h.Make(0, 0)
	for _, v := range someValues() {
		h.Put(1, text("a"), api.Prop{Set: v, Flags: acc})
		how, setter, e := object.Set(h, 1, text("a"), number(1), 1)
		if want := v.Kind != api.Undefined; (how == api.SetCall) != want || e != api.OK || !sameValue(setter, v) {
			t.Errorf("%+v: %d, %+v, error %d", v, how, setter, e)
		}
	}
}

// P16.4
func TestDelete(t *testing.T) {
	p := newPair(30, 2)
	p.setProto(t, 2, 1)
	p.put(1, text("a"), api.Prop{Flags: c})
	if !p.delete(t, 2, text("a")) { // not its own
		t.Error("the prototype's")
	}
	p.check(t)
	for flags := range 16 {
		p.put(2, keys.Of(uint32(flags)), api.Prop{Flags: flags})
	}
	p.got.Shut(2)
	p.want.Shut(2)
	for flags := range 16 {
		if p.delete(t, 2, keys.Of(uint32(flags))) != (flags&c != 0) {
			t.Errorf("flags %d", flags)
		}
		p.check(t)
	}
	if !p.delete(t, 1, text("a")) || !p.delete(t, 1, text("a")) {
		t.Error("twice")
	}
	p.check(t)
}

// P16.4: which prototypes an object takes.
func TestSetProto(t *testing.T) {
	p := newPair(9, 4)
	for _, x := range []struct {
		o, proto int
		want     bool
	}{{1, 0, true}, {2, 1, true}, {2, 1, true}, {3, 2, true}, {1, 3, false}, {1, 2, false}, {1, 1, false}, {2, 3, false}, {4, 3, true}, {3, 0, true}, {1, 3, true}, {3, 4, false}, {4, 5, false}, {4, -1, false}} {
		if p.setProto(t, x.o, x.proto) != x.want {
			t.Errorf("SetProto(%d, %d): %v", x.o, x.proto, !x.want)
		}
		p.check(t)
	}
	p.got.Shut(4)
	p.want.Shut(4)
	if !p.setProto(t, 4, 3) || p.setProto(t, 4, 2) || p.setProto(t, 4, 0) || p.setProto(t, 4, 4) {
		t.Error("of one that is shut")
	}
	p.check(t)
	p.got.SetProto(3, 3)
	p.want.SetProto(3, 3)
	if !p.setProto(t, 3, 3) { // it is so already
		t.Error("a circle that there is")
	}
	p.check(t)
}

// P16.4: 1000 objects are looked at, and no more.
func TestSetProtoFar(t *testing.T) {
	for _, n := range []int{2, 999, 1000, 1001, 1002} {
		h := row(n)
		if ok := object.SetProto(h, 1, n); ok != (n > 1000) { // 1 is the n-th from n on
			t.Errorf("%d: %v", n, ok)
		}
		if want := (n > 1000); (h.Proto(1) == n) != want {
			t.Errorf("%d: Proto: %d", n, h.Proto(1))
		}
	}
}

// P16.5: of each property's flags what is left.
func TestSealFreeze(t *testing.T) {
	for _, freeze := range []bool{false, true} {
		for _, force := range []bool{false, true} {
			p := newPair(17, 1)
			for flags := range 16 {
				p.put(1, keys.Of(uint32(flags)), api.Prop{Value: number(1), Get: reference(1), Flags: flags})
			}
			if force {
				p.got.Force(1)
			}
			do, done := p.seal, object.Sealed
			if freeze {
				do, done = p.freeze, object.Frozen
			}
			for range 2 {
				do(t, 1)
				p.check(t)
			}
			if !done(p.got, 1) || !object.Sealed(p.got, 1) || object.Frozen(p.got, 1) != freeze || p.got.Open(1) {
				t.Error("it is not so")
			}
			for flags := range 16 {
				want := flags &^ c
				if freeze && flags < acc {
					want &^= w
				}
				if now, is := p.got.Own(1, keys.Of(uint32(flags))); !is || now.Flags != want {
					t.Errorf("flags %d: %+v, %v", flags, now, is)
				}
			}
		}
	}
}

// P16.5: what hinders Sealed and Frozen, one by one.
func TestSealedFrozen(t *testing.T) {
	for flags := range 16 {
		p := newPair(9, 1)
		if object.Sealed(p.got, 1) || object.Frozen(p.got, 1) {
			t.Error("an open object")
		}
		p.got.Shut(1)
		p.want.Shut(1)
		if !object.Sealed(p.got, 1) || !object.Frozen(p.got, 1) {
			t.Error("an empty object that is shut")
		}
		p.put(1, text("a"), api.Prop{})
		p.put(1, text("b"), api.Prop{Flags: flags})
		p.check(t)
		if sealed := flags&c == 0; object.Sealed(p.got, 1) != sealed || object.Frozen(p.got, 1) != (sealed && flags&(w|acc) != w) {
			t.Errorf("flags %d", flags)
		}
	}
}

// P16.5: an object with more properties than a shape takes, in a heap without room.
func TestFreezeMany(t *testing.T) {
	const many = 3000
	p := newPair(many+1, 1)
	for i := range many {
		p.put(1, text("k"+strconv.Itoa(many-i)), api.Prop{Value: number(float64(i)), Flags: i % 16})
	}
	p.seal(t, 1)
	p.check(t)
	p.freeze(t, 1)
	p.check(t)
}

// told is all that Own tells of an object, with a key that it has not.
func told(h *heap.Heap, o int) []api.Prop {
	var out []api.Prop
	for _, k := range someKeys() {
		p, is := h.Own(o, k)
		if !is {
			p.Flags = -1
		}
		out = append(out, p)
	}
	return out
}

// P16.6: whatever is done to a frozen object, it stays as it is.
func TestFrozenStays(t *testing.T) {
	for seed := range int64(300) {
		r := rand.New(rand.NewSource(seed))
		h := heap.New(50)
		h.Make(0, 0)
		h.Make(0, 1)
		for _, k := range someKeys() {
			h.Put(1+r.Intn(2), k, randomProp(r))
		}
		object.Freeze(h, 2)
		before := told(h, 2)
		for range 100 {
			k := pick(r, someKeys())
			switch r.Intn(4) {
			case 0:
				object.Set(h, 1+r.Intn(2), k, pick(r, someValues()), 2)
			case 1:
				object.Delete(h, 2, k)
			case 2:
				if p, is := h.Own(2, k); is { // just what stands there
					has := 1 | 2 | 16 | 32
					if p.Flags >= acc {
						has = 4 | 8 | 16 | 32
					}
					if ok, e := object.Define(h, 2, k, api.Desc{Has: has, Prop: p}); !ok || e != api.OK {
						t.Fatalf("seed %d: what stands there: %v, error %d", seed, ok, e)
					}
				}
			default:
				object.Define(h, 2, k, randomDesc(r))
			}
			if after := told(h, 2); !slices.EqualFunc(before, after, sameProp) || !object.Frozen(h, 2) {
				t.Fatalf("seed %d: %+v, not %+v", seed, after, before)
			}
		}
	}
}

// P16.6: a description of just what stands there changes nothing, whatever stands there.
func TestDefineWhatIs(t *testing.T) {
	for flags := range 16 {
		for _, v := range someValues() {
			h := heap.New(9)
			h.Make(0, 0)
			h.Put(1, text("a"), api.Prop{Value: v, Get: v, Set: v, Flags: flags})
			was, _ := h.Own(1, text("a"))
			has := 1 | 2 | 16 | 32
			if flags >= acc {
				has = 4 | 8 | 16 | 32
			}
			if ok, e := object.Define(h, 1, text("a"), api.Desc{Has: has, Prop: was}); !ok || e != api.OK {
				t.Errorf("%+v: %v, error %d", was, ok, e)
			}
			if p, is := h.Own(1, text("a")); !is || !sameProp(p, was) {
				t.Errorf("%+v, not %+v", p, was)
			}
		}
	}
}

// P16.7: whatever is done, what isn't Configurable stays so and does not go; if it isn't Writable either, it keeps its value.
func TestNotConfigurableStays(t *testing.T) {
	for seed := range int64(300) {
		r := rand.New(rand.NewSource(seed))
		h := heap.New(50)
		h.Make(0, 0)
		h.Make(0, 1)
		for _, k := range someKeys() {
			h.Put(1+r.Intn(2), k, randomProp(r))
		}
		for range 200 {
			o, k := 1+r.Intn(2), pick(r, someKeys())
			was, is := h.Own(o, k)
			switch r.Intn(8) {
			case 0:
				object.Set(h, o, k, pick(r, someValues()), o)
			case 1:
				object.Delete(h, o, k)
			case 2:
				if r.Intn(30) == 0 {
					object.Seal(h, o)
				}
			default:
				object.Define(h, o, k, randomDesc(r))
			}
			if !is || was.Flags&c != 0 {
				continue
			}
			now, still := h.Own(o, k)
			if !still || now.Flags&c != 0 || now.Flags&(en|acc) != was.Flags&(en|acc) {
				t.Fatalf("seed %d: %+v, not %+v", seed, now, was)
			}
			if was.Flags&w == 0 && !sameProp(now, was) {
				t.Fatalf("seed %d: %+v, not %+v", seed, now, was)
			}
		}
	}
}
