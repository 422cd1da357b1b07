package iterate_test

import (
	"math"
	"slices"
	"strconv"
	"testing"
	"unsafe"

	"lintel/api"
	"lintel/heap"
	"lintel/iterate"
)

// text is the key of a text of ASCII.
func text(s string) api.Key {
	b := make([]byte, 0, 2*len(s))
	for i := range len(s) {
		b = append(b, 0, s[i])
	}
	return api.Key{Name: api.Str(b)}
}

// texts are the keys of several.
func texts(l ...string) []api.Key {
	var out []api.Key
	for _, s := range l {
		out = append(out, text(s))
	}
	return out
}

// numbered is the key of a text that no other number has.
func numbered(n int) api.Key { return text("k" + strconv.Itoa(n)) }

// plain is a property with all flags of a value.
func plain() api.Prop { return api.Prop{Flags: 7} }

// hidden is one that is not Enumerable.
func hidden() api.Prop { return api.Prop{Flags: 5} }

// row is a heap of objects with these keys; each one's prototype is the one ahead of it.
func row(l ...[]string) *heap.Heap {
	h := heap.New(1000)
	for o, names := range l {
		h.Make(0, o)
		for _, k := range texts(names...) {
			h.Put(o+1, k, plain())
		}
	}
	return h
}

// rest is what an enumeration tells from now on.
func rest(e *iterate.Enum) []api.Key {
	var out []api.Key
	for k, is := e.Next(); is; k, is = e.Next() {
		out = append(out, k)
	}
	return out
}

// holdRest holds what is told from now on.
func holdRest(t *testing.T, e *iterate.Enum, want ...string) {
	t.Helper()
	if got := rest(e); !slices.Equal(got, texts(want...)) {
		t.Errorf("told: %x, not %q", got, want)
	}
}

// holdNext holds the next one.
func holdNext(t *testing.T, e *iterate.Enum, want string) {
	t.Helper()
	if k, is := e.Next(); !is || k != text(want) {
		t.Fatalf("Next: %x, %v, not %q", k, is, want)
	}
}

// holdEnd holds that there is no next one, however often it is asked for.
func holdEnd(t *testing.T, e *iterate.Enum) {
	t.Helper()
	looked := e.Looked()
	for range 3 {
		if k, is := e.Next(); is || k != (api.Key{}) {
			t.Fatalf("Next at the end: %x, %v", k, is)
		}
	}
	if e.Looked() != looked {
		t.Errorf("Looked at the end: %d, not %d", e.Looked(), looked)
	}
}

// P20.1 to P20.3, P20.5: the document's example.
func TestExample(t *testing.T) {
	h := row([]string{"b", "c"}, nil)
	h.Put(2, text("b"), hidden())
	h.Put(2, text("a"), plain())
	h.Put(2, text("2"), plain())
	holdRest(t, iterate.New(h, 2), "2", "a", "c")
	if l := iterate.Keys(h, 2); !slices.Equal(l, texts("2", "a", "c")) {
		t.Errorf("Keys: %x", l)
	}
	if l := iterate.Own(h, 2); !slices.Equal(l, texts("2", "a")) {
		t.Errorf("Own: %x", l)
	}
}

// P20.1, P1: nothing is enumerated of what isn't there, also when it comes to be there.
func TestNoObject(t *testing.T) {
	h := row([]string{"a"})
	for _, o := range []int{0, -1, 2, math.MinInt, math.MaxInt} {
		if len(iterate.Keys(h, o)) != 0 || len(iterate.Own(h, o)) != 0 {
			t.Errorf("keys of %d", o)
		}
		e := iterate.New(h, o)
		if e == nil || e.Looked() != 0 {
			t.Fatalf("New(%d)", o)
		}
		holdEnd(t, e)
	}
	e := iterate.New(h, 2)
	h.Make(0, 1)
	h.Put(2, text("b"), plain())
	holdEnd(t, e)
	holdRest(t, iterate.New(h, 2), "b", "a")
}

// P20.1, P1: heaps that there are not.
func TestNoHeap(t *testing.T) {
	copied := *row([]string{"a"})
	for name, h := range map[string]*heap.Heap{"nil": nil, "zero": {}, "copied": &copied} {
		for _, o := range []int{0, 1, -1} {
			e := iterate.New(h, o)
			if holdEnd(t, e); e.Looked() != 0 || len(iterate.Keys(h, o)) != 0 || len(iterate.Own(h, o)) != 0 {
				t.Errorf("%s: something is told of %d", name, o)
			}
		}
	}
}

// P20.1, P1: enumerations that New did not make.
func TestNotMade(t *testing.T) {
	made := iterate.New(row([]string{"a", "b"}), 1)
	holdNext(t, made, "a")
	copied := *made
	for name, e := range map[string]*iterate.Enum{"nil": nil, "zero": {}, "copied": &copied} {
		if holdEnd(t, e); e.Looked() != 0 {
			t.Errorf("%s: Looked: %d", name, e.Looked())
		}
	}
	if holdRest(t, made, "b"); made.Looked() != 2 {
		t.Errorf("Looked of the one itself: %d", made.Looked())
	}
}

// P20.1: New comes to the object; to the others the enumeration comes when those ahead are done.
func TestWhenItComes(t *testing.T) {
	h := row([]string{"x"}, []string{"m"}, []string{"a", "b"})
	e := iterate.New(h, 3)
	h.Put(3, text("late"), plain())
	h.Put(2, text("early"), plain())
	holdNext(t, e, "a")
	holdNext(t, e, "b")
	h.Put(2, text("just"), plain()) // all of 3 is told, but it is at 3 still
	holdNext(t, e, "m")
	h.Put(2, text("too late"), plain())
	h.Put(1, text("y"), plain())
	holdRest(t, e, "early", "just", "x", "y")
	holdEnd(t, e)
}

// P20.1, P20.2: the prototype is that of when the enumeration leaves the object.
func TestPrototypesChange(t *testing.T) {
	h := row([]string{"a"}, []string{"b"}, []string{"c"}, []string{"d"})
	e := iterate.New(h, 4)
	h.SetProto(4, 2)
	holdNext(t, e, "d")
	h.SetProto(4, 1)
	holdNext(t, e, "a")
	h.SetProto(4, 3) // it has been left
	h.SetProto(1, 2)
	holdNext(t, e, "b")
	h.SetProto(2, 0)
	holdEnd(t, e)
	h.SetProto(2, 3) // it is at its end
	holdEnd(t, e)
	if e.Looked() != 3 {
		t.Errorf("Looked: %d", e.Looked())
	}
}

// P20.1: an object to which the enumeration comes again is asked again, and has what it had, too, as one ahead.
func TestComesAgain(t *testing.T) {
	h := row([]string{"a"}, []string{"b"})
	e := iterate.New(h, 2)
	holdNext(t, e, "b")
	h.Put(2, text("again"), plain())
	holdNext(t, e, "a")
	h.SetProto(2, 0)
	h.SetProto(1, 2)
	holdNext(t, e, "again")
	if holdEnd(t, e); e.Looked() != 4 {
		t.Errorf("Looked: %d", e.Looked())
	}
}

// P20.1: 1000 objects are come to, and no more.
func TestLongRow(t *testing.T) {
	for _, size := range []int{1, 2, 999, 1000, 1001, 1500} {
		h := heap.New(2 * size)
		for o := range size {
			h.Make(0, o)
			h.Put(o+1, numbered(o+1), plain())
		}
		l := iterate.Keys(h, size)
		if want := min(size, 1000); len(l) != want || l[0] != numbered(size) || l[want-1] != numbered(size-want+1) {
			t.Errorf("of %d objects %d are told", size, len(l))
		}
		e := iterate.New(h, size)
		if rest(e); e.Looked() != min(size, 1000) {
			t.Errorf("Looked: %d of %d objects", e.Looked(), size)
		}
		holdEnd(t, e)
	}
}

// P20.1, P20.4, P1: circles of prototypes come to an end, too, and tell each key once.
func TestCircles(t *testing.T) {
	h := row([]string{"a", "b"})
	h.SetProto(1, 1)
	e := iterate.New(h, 1)
	if holdRest(t, e, "a", "b"); e.Looked() != 2000 {
		t.Errorf("Looked: %d", e.Looked())
	}
	h = row([]string{"a", "b"}, []string{"b", "c", "1"}, []string{"a"})
	h.SetProto(1, 3)
	e = iterate.New(h, 2)
	if holdRest(t, e, "1", "b", "c", "a"); e.Looked() != 3*334+2*333+333 {
		t.Errorf("Looked: %d", e.Looked())
	}
	holdEnd(t, e)
}

// P20.2: heap.Keys' order; symbols are passed over, but looked at; an empty text is a text.
func TestSorts(t *testing.T) {
	h := row([]string{"b", "10", "", "9", "01", "4294967295", "4294967294", "length"})
	h.Put(1, api.Key{Sym: 2}, plain())
	h.Put(1, api.Key{Name: text("x").Name, Sym: 1}, plain())
	h.Put(1, api.Key{Name: text("odd").Name + "y", Sym: -1}, plain())
	want := []string{"9", "10", "4294967294", "b", "", "01", "4294967295", "length", "odd"}
	e := iterate.New(h, 1)
	if holdRest(t, e, want...); e.Looked() != 11 {
		t.Errorf("Looked: %d", e.Looked())
	}
	if l := iterate.Own(h, 1); !slices.Equal(l, texts(want...)) {
		t.Errorf("Own: %x", l)
	}
}

// P20.2, P20.3: Enumerable alone counts, of all flags.
func TestFlags(t *testing.T) {
	h := row(nil, nil)
	var want []string
	for flags := range 16 {
		name := "f" + strconv.Itoa(flags)
		h.Put(2, text(name), api.Prop{Flags: flags})
		h.Put(1, text(name), plain()) // is hidden by the one ahead of it in each case
		if flags&api.Enumerable != 0 {
			want = append(want, name)
		}
	}
	e := iterate.New(h, 2)
	if holdRest(t, e, want...); e.Looked() != 32 {
		t.Errorf("Looked: %d", e.Looked())
	}
	if l := iterate.Own(h, 2); !slices.Equal(l, texts(want...)) {
		t.Errorf("Own: %x", l)
	}
}

// P20.2: what is Enumerable is asked when a key's turn comes.
func TestFlagsChange(t *testing.T) {
	h := row([]string{"c"}, []string{"a", "b"})
	h.Put(2, text("d"), hidden())
	e := iterate.New(h, 2)
	holdNext(t, e, "a")
	h.Put(2, text("b"), hidden())
	h.Put(2, text("d"), plain())
	h.Put(1, text("c"), hidden())
	h.Put(1, text("e"), plain())
	holdRest(t, e, "d", "e")
}

// P20.2: a class, and whether new properties may come, say nothing.
func TestClasses(t *testing.T) {
	for class := range 7 {
		h := heap.New(9)
		h.Make(class, 0)
		h.Put(1, text("a"), plain())
		h.Put(1, text("0"), plain())
		h.Shut(1)
		holdRest(t, iterate.New(h, 1), "0", "a")
	}
}

// P20.2, P20.4: what objects ahead had when the enumeration came to them counts, not what they have.
func TestHadAhead(t *testing.T) {
	h := row([]string{"a", "b", "c", "x"}, []string{"a", "b"})
	h.Put(2, text("c"), hidden())
	e := iterate.New(h, 2)
	holdNext(t, e, "a")
	h.Drop(2, text("b"))
	h.Drop(2, text("c"))
	h.Drop(2, text("a"))
	h.Put(2, text("x"), plain()) // not told of 2, but it does not hide the other one
	holdRest(t, e, "x")
}

// P20.4: what goes ahead of its turn is not told, wherever it stands.
func TestDropped(t *testing.T) {
	h := row([]string{"d", "e"}, []string{"a", "b", "c"})
	e := iterate.New(h, 2)
	h.Drop(2, text("a"))
	holdNext(t, e, "b")
	h.Drop(2, text("b"))
	h.Drop(1, text("e"))
	holdNext(t, e, "c")
	h.Drop(1, text("d"))
	h.Put(1, text("f"), plain())
	if holdRest(t, e, "f"); e.Looked() != 4 {
		t.Errorf("Looked: %d", e.Looked())
	}
}

// P20.4: what was told is not told again, though it goes and comes.
func TestToldOnce(t *testing.T) {
	h := row([]string{"a", "z"}, []string{"a", "b", "c"})
	e := iterate.New(h, 2)
	holdNext(t, e, "a")
	h.Drop(2, text("a"))
	h.Put(2, text("a"), plain())
	h.Put(1, text("b"), plain())
	holdRest(t, e, "b", "c", "z")
}

// P20.2: what was looked at is counted as it goes on.
func TestLooked(t *testing.T) {
	h := row([]string{"a", "d"}, []string{"a", "b", "c"})
	h.Put(2, text("b"), hidden())
	e := iterate.New(h, 2)
	for i, want := range []int{0, 1, 3, 5, 5, 5} {
		if e.Looked() != want {
			t.Errorf("Looked behind %d: %d, not %d", i, e.Looked(), want)
		}
		e.Next()
	}
}

// P20.1, P3: enumerations of one object know nothing of each other.
func TestSideBySide(t *testing.T) {
	h := row([]string{"a", "b"}, []string{"a", "c"})
	d, e := iterate.New(h, 2), iterate.New(h, 2)
	holdNext(t, d, "a")
	holdNext(t, d, "c")
	holdNext(t, e, "a")
	holdRest(t, d, "b")
	holdRest(t, e, "c", "b")
	if d.Looked() != 4 || e.Looked() != 4 {
		t.Errorf("Looked: %d, %d", d.Looked(), e.Looked())
	}
}

// P20.5, G5: whether objects go by shapes is not seen, also if that changes meanwhile.
func TestModes(t *testing.T) {
	for when := range 6 {
		h := row([]string{"z", "b", "1"}, []string{"b", "a"})
		h.Put(2, text("z"), hidden())
		e := iterate.New(h, 2)
		var got []api.Key
		for i := range 6 {
			if i == when {
				h.Force(1)
				h.Force(2)
			}
			if k, is := e.Next(); is {
				got = append(got, k)
			}
		}
		if !slices.Equal(got, texts("b", "a", "1")) || e.Looked() != 6 {
			t.Errorf("forced ahead of %d: %x, Looked %d", when, got, e.Looked())
		}
	}
}

// P2: nothing that is answered shares memory with another answer, and what is done to a list that was answered changes no other.
func TestMemory(t *testing.T) {
	h := row([]string{"a long text", "12345"}, []string{"another text"})
	at := func(k api.Key) *byte { return unsafe.StringData(string(k.Name)) }
	apart := func(a, b []api.Key) {
		t.Helper()
		for i := range a {
			if a[i] != b[i] || at(a[i]) == at(b[i]) {
				t.Errorf("%x and %x: alike %v", a[i], b[i], a[i] == b[i])
			}
		}
	}
	apart(iterate.Keys(h, 2), iterate.Keys(h, 2))
	apart(iterate.Own(h, 1), iterate.Own(h, 1))
	apart(rest(iterate.New(h, 2)), iterate.Keys(h, 2))
	apart(iterate.Own(h, 1), h.Keys(1))
	for _, l := range [][]api.Key{iterate.Keys(h, 2), iterate.Own(h, 1)} {
		for _, more := range l[:cap(l)][len(l):] {
			if more != (api.Key{}) {
				t.Errorf("behind the list: %x", more)
			}
		}
		clear(l)
	}
	if l := iterate.Keys(h, 2); !slices.Equal(l, texts("another text", "12345", "a long text")) {
		t.Errorf("Keys: %x", l)
	}
}

// P1: many keys, many objects, and the greatest texts as keys, are gone through in little time.
func TestMany(t *testing.T) {
	const size = 100000
	h := heap.New(3 * size)
	h.Make(0, 0)
	h.Make(0, 1)
	for n := range size {
		h.Put(1, numbered(n), plain())
		h.Put(2, numbered(2*n), api.Prop{Flags: 5 + 2*(n&1)})
	}
	if l := iterate.Keys(h, 2); len(l) != size/2+size/2 || l[0] != numbered(2) || l[size-1] != numbered(size-1) {
		t.Errorf("%d keys", len(l))
	}
	long := api.Key{Name: api.Str(make([]byte, 2*api.MaxStr))}
	h.Make(0, 0)
	h.Put(3, long, plain())
	if l := iterate.Keys(h, 3); len(l) != 1 || l[0] != long {
		t.Errorf("%d keys", len(l))
	}
}
