package vm_test

import (
	"fmt"
	"slices"
	"testing"

	"lintel/api"
	"lintel/gen"
	"lintel/parse"
	"lintel/vm"
)

// host is what grown scripts may ask for.
func host() []api.Str { return []api.Str{utf16("one"), utf16("two")} }

// machine is one on which scripts can name the symbol iterator.
func machine(t *testing.T, l api.Limits) *vm.Machine {
	t.Helper()
	m := vm.New(l, host())
	if !m.Global("iterator", symbolIterator) {
		t.Fatal("no global")
	}
	return m
}

// alike says whether two outcomes are alike.
func alike(a, b api.Outcome) bool {
	return a.End == b.End && a.Value == b.Value && slices.Equal(a.Trace, b.Trace)
}

// begins says whether one of two traces is the other's beginning.
func begins(a, b []string) bool {
	n := min(len(a), len(b))
	return slices.Equal(a[:n], b[:n])
}

// wanted says how a walk over a source's tree ends, and the limits that P21.15 gives its machine.
func wanted(t *testing.T, src string, steps int) (api.Outcome, api.Limits) {
	t.Helper()
	l, at, e := parse.Script(src)
	if e != api.OK {
		t.Fatalf("%s\nno script: %d, error %d", src, at, e)
	}
	r := newRealm(steps, 20000, host()...)
	o := r.walked(l)
	cells := r.heap.Used() - r.begun
	return o, api.Limits{Fuel: 200*r.steps + 2000 - 1, Frames: 3*r.mostCalls + 20 - 1, Cells: 5*cells + 2000 - 1}
}

// moduleOf is a source's module.
func moduleOf(t *testing.T, src string) api.Module {
	t.Helper()
	x, at, e := gen.Source(src)
	if e != api.OK {
		t.Fatalf("%s\nno module: %d, error %d", src, at, e)
	}
	return x
}

// P21.6, P21.15, P21.4, P21.7: scripts as they come run as a walk over their trees goes, within what that takes; with less of all they end sooner,
// but not otherwise; and so however the machine is flushed.
func TestGrown(t *testing.T) {
	for shard := range 8 {
		t.Run(fmt.Sprint(shard), func(t *testing.T) {
			t.Parallel()
			for i := range 250 {
				g := newGrower(int64(1000*shard + i))
				src := g.program(1 + i%4)
				runsAsWalked(t, src)
			}
		})
	}
}

func runsAsWalked(t *testing.T, src string) {
	t.Helper()
	want, limits := wanted(t, src, 3000)
	x := moduleOf(t, src)
	if want.End == api.EndLimit {
		limits.Fuel /= 10 // the walk may have been stopped where the machine is not
	}
	for how := range 4 {
		m := machine(t, limits)
		m.Flush(how)
		got := m.Run(x)
		stopped := want.End == api.EndLimit
		switch {
		case stopped && (got.End == api.EndStuck || !begins(got.Trace, want.Trace)), !stopped && !alike(got, want):
			t.Fatalf("%s\nflushed %d: end %d, %s, trace %q,\nnot end %d, %s, trace %q", src, how, got.End, got.Value, got.Trace, want.End, want.Value, want.Trace)
		}
		if how == 0 && !stopped {
			endsSooner(t, src, x, got, m)
		}
	}
}

// endsSooner asks what comes of less than what a machine has used.
func endsSooner(t *testing.T, src string, x api.Module, want api.Outcome, used *vm.Machine) {
	t.Helper()
	fuel, cells := used.Spent(), used.Heap().Used()
	for i, l := range []api.Limits{
		{Fuel: fuel, Frames: 10000, Cells: cells}, {Fuel: fuel - 1, Frames: 10000, Cells: cells}, {Fuel: fuel / 2, Frames: 10000, Cells: cells},
		{Fuel: fuel, Frames: 10000, Cells: cells - 1}, {Fuel: fuel, Frames: 10000, Cells: cells * 2 / 3}, {Fuel: fuel, Frames: 2, Cells: cells},
	} {
		m := machine(t, l)
		got := m.Run(x)
		ended := []int{want.End, api.EndFuel, api.EndFuel, api.EndLimit, api.EndLimit, got.End}[i]
		switch {
		case got.End != ended, got.End != api.EndFuel && got.End != api.EndLimit && !alike(got, want),
			len(got.Trace) > len(want.Trace), !begins(got.Trace, want.Trace), m.Spent() > l.Fuel, m.Heap().Used() > l.Cells:
			t.Fatalf("%s\nwith %+v: end %d, %s, trace %q, not as end %d, %s, trace %q", src, l, got.End, got.Value, got.Trace, want.End, want.Value, want.Trace)
		}
	}
}
