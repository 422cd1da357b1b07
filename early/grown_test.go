package early_test

import (
	"math/rand"
	"slices"
	"testing"

	"lintel/api"
	"lintel/early"
	"lintel/parse"
	"lintel/show"
	"lintel/tree"
)

// grown is trees as they come: many small ones, of which some break no rule, and some greater ones.
func grown(t *testing.T, seed int64, count int, hold func(grower, []api.Node)) {
	t.Helper()
	g := grower{rand.New(rand.NewSource(seed))}
	for i := range count {
		l := g.script(1 + i%5)
		if len(l) > 400 {
			continue
		}
		if at, e := tree.Check(l); e != api.OK {
			t.Fatalf("no tree: %d, error %d: %v", at, e, l)
		}
		hold(g, l)
	}
}

// P9.1, P9.2: at trees as they come, against the document's table asked from below.
func TestGrown(t *testing.T) {
	times := make([]int, 10) // by rules: how often it was told; of 0 how many trees break none
	grown(t, 1, 30000, func(g grower, l []api.Node) {
		want := newOracle(l).all()
		if got := all(l); !slices.Equal(got, want) {
			t.Fatalf("%v: %v, not %v", l, got, want)
		}
		for _, x := range want {
			times[x.rule]++
		}
		wantAt, wantE := 0, api.OK
		if len(want) > 0 {
			least := slices.MinFunc(want, func(a, b told) int { return l[a.node].At - l[b.node].At })
			wantAt, wantE = l[least.node].At, api.ErrEarly
		} else {
			times[0]++
		}
		if at, e := early.Check(l); at != wantAt || e != wantE {
			t.Fatalf("%v: %d, error %d, not %d, error %d", l, at, e, wantAt, wantE)
		}
	})
	if slices.Min(times) < 100 {
		t.Errorf("some rule is hardly ever told: %v", times)
	}
}

// P9.3: at all nodes of trees as they come.
func TestGrownNames(t *testing.T) {
	grown(t, 2, 1000, func(g grower, l []api.Node) {
		o := newOracle(l)
		for n := range l {
			if got, want := early.Names(l, n), o.names(n); !slices.Equal(got, want) {
				t.Fatalf("%v: names of %d: %q, not %q", l, n, got, want)
			}
		}
	})
}

// P9.4: with other places the same nodes are told, by the same rules.
func TestRenamed(t *testing.T) {
	grown(t, 3, 5000, func(g grower, l []api.Node) {
		other := slices.Clone(l)
		for i := range other {
			other[i].At = g.Intn(3) * g.Intn(1<<40)
		}
		_, e := early.Check(l)
		_, otherE := early.Check(other)
		if got, want := all(other), all(l); !slices.Equal(got, want) || e != otherE {
			t.Fatalf("%v: %v, error %d; with other places %v, error %d", l, want, e, got, otherE)
		}
	})
}

// P9.2, P9.4: what is read again from a tree's source, with numbers and places of its own, breaks the same rules in the same order.
func TestReadAgain(t *testing.T) {
	count := 0
	grown(t, 4, 5000, func(g grower, l []api.Node) {
		src, e := show.Source(l)
		again, at, parseE := parse.Script(src)
		if e != api.OK || parseE != api.OK {
			t.Fatalf("%q: error %d; %d, error %d", src, e, at, parseE)
		}
		if placeless(t, again) != placeless(t, l) {
			return // a tree of no source: a getter's function with a name, an else that another if would take
		}
		count++
		if got, want := all(again), all(l); !slices.Equal(rulesOf(got), rulesOf(want)) {
			t.Fatalf("%q: %v, not %v", src, got, want)
		}
	})
	if count < 2000 {
		t.Errorf("just %d trees are those of a source", count)
	}
}

// placeless is a tree in parentheses, without its places.
func placeless(t *testing.T, l []api.Node) string {
	t.Helper()
	l = slices.Clone(l)
	for i := range l {
		l[i].At = 0
	}
	s, e := show.Lisp(l)
	if e != api.OK {
		t.Fatalf("%v: error %d", l, e)
	}
	return s
}

func rulesOf(l []told) []int {
	var out []int
	for _, x := range l {
		out = append(out, x.rule)
	}
	return out
}
