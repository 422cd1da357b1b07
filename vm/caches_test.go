package vm_test

import (
	"slices"
	"testing"

	"lintel/api"
	"lintel/vm"
)

const loop = "let o = { a: 1 }; for (let i = 0; i < 100; i++) o.a;"

// counted is a machine's hits and misses behind a source.
func counted(t *testing.T, how int, src string) (hits, misses int) {
	t.Helper()
	m := machine(t, roomy)
	m.Flush(how)
	if o := m.Source(src); o.End != api.EndNormal {
		t.Fatal(told(o))
	}
	return m.Caches()
}

// P21.14: caches are of use, unless they are flushed.
func TestCaches(t *testing.T) {
	for _, src := range []string{loop, "function F() {} F.prototype.m = () => 1; let o = new F(); for (let i = 0; i < 100; i++) o.m();", "for (let i = 0; i < 100; i++) 'abc'.length + [].values.length;"} {
		if hits, misses := counted(t, 0, src); hits <= misses || hits < 90 {
			t.Errorf("%s: %d, %d", src, hits, misses)
		}
	}
	for how, want := range map[int]bool{0: true, 1: false, 2: false, -1: true, 4: true, 99: true} {
		if hits, misses := counted(t, how, loop); (hits > 0) != want || hits+misses < 100 {
			t.Errorf("flushed %d: %d, %d", how, hits, misses)
		}
	}
	m := machine(t, roomy)
	if hits, misses := m.Caches(); hits != 0 || misses != 0 {
		t.Errorf("%d, %d", hits, misses)
	}
	m.Watch(func() {
		m.Flush(1)
		m.Flush(0)
	})
	m.Source("let o = { a: 1 }, f = () => o.a; f(); f(); print(); f();")
	if hits, misses := m.Caches(); hits != 1 || misses != 2 {
		t.Errorf("flushed once: %d, %d", hits, misses)
	}
	m = machine(t, roomy)
	m.Flush(2)
	m.Watch(func() { m.Flush(0) })
	m.Source("let o = { a: 1 }, f = () => o.a; f(); f(); print(); for (let i = 0; i < 10; i++) f();")
	if hits, misses := m.Caches(); hits != 9 || misses != 3 {
		t.Errorf("flushed no more: %d, %d", hits, misses)
	}
}

// P21.14: each object that gets a property from then on is a dictionary.
func TestFlushObjects(t *testing.T) {
	const objects = "{ a: 1 }; [1]; () => 1; Error('m'); new (function () { this.a = 1; }); let o = {}; o.b = 1; "
	m := machine(t, roomy)
	h := m.Heap()
	before := h.Len()
	m.Flush(3)
	a, _ := m.Make(0, 0)
	m.Lay(a, "x", num(1))
	b, _ := m.Make(1, 0)
	m.Native("f", 0, nil)
	m.Source(objects)
	for o := before + 1; o <= h.Len(); o++ {
		if h.Fast(o) && len(h.Keys(o)) > 0 {
			t.Errorf("%d of %d: %v", o, before, h.Keys(o))
		}
	}
	if h.Fast(a.Ref) || h.Fast(b.Ref) {
		t.Error("fast")
	}
	old := answer(t, machine(t, roomy), "print")
	if !h.Fast(old.Ref) {
		t.Error("one that got nothing is a dictionary")
	}
	m.Flush(0)
	d := answer(t, m, "{ a: 1 }")
	if !h.Fast(d.Ref) {
		t.Error("for good")
	}
	m.Watch(func() { m.Flush(3) })
	if e := answer(t, m, "[print(), 1]"); h.Fast(e.Ref) {
		t.Error("one that was there gets an element")
	}
}

// P21.7, P21.14: the machine is flushed behind any print, in any order.
func TestFlushNotSeen(t *testing.T) {
	for i := range 60 {
		g := newGrower(int64(500000 + i))
		x := moduleOf(t, g.program(1+i%4))
		l := api.Limits{Fuel: 20000, Frames: 100, Cells: 5000}
		want := machine(t, l).Run(x)
		for range 3 {
			m := machine(t, l)
			m.Watch(func() { m.Flush(g.Intn(5)) })
			if got := m.Run(x); !alike(got, want) {
				t.Fatalf("end %d, %s, trace %q, not %d, %s, %q", got.End, got.Value, got.Trace, want.End, want.Value, want.Trace)
			}
		}
	}
}

// P21.14: who watches is told behind each print and input that has answered.
func TestWatch(t *testing.T) {
	m := machine(t, roomy)
	var seen []int
	m.Watch(func() { seen = append(seen, len(m.Source("").Trace)) })
	run(t, m, "print(1); try { print(iterator); } catch (e) { } input(); input(); input(); [print][0](2); Error('no');", "1 | 2")
	if !slices.Equal(seen, []int{1, 1, 1, 1, 2}) {
		t.Errorf("%v", seen)
	}
	m.Watch(nil)
	run(t, m, "print(3);", "3")
	if len(seen) != 5 {
		t.Errorf("%v", seen)
	}
	n := 0
	m.Watch(func() {
		if n++; n == 1 {
			m.Watch(func() { n += 10 })
		}
	})
	run(t, m, "print(4); print(5);", "4 | 5")
	if n != 11 {
		t.Error(n)
	}
	m.Watch(func() { m.Stop() })
	run(t, m, "print(6); print(7);", "6 limit")
}

// P1, P21.14: a watcher that prints does not go on so forever.
func TestWatchPrints(t *testing.T) {
	m := vm.New(api.Limits{Fuel: 1 << 40, Frames: 1 << 40, Cells: 10000}, nil)
	print := answer(t, m, "print")
	m.Watch(func() { m.Call(print, api.Value{}, nil) })
	if o := m.Source("print(1);"); o.End != api.EndLimit || len(o.Trace) < 2 {
		t.Errorf("end %d, %d lines", o.End, len(o.Trace))
	}
}
