package scope_test

import (
	"fmt"
	"maps"
	"slices"
	"testing"

	"lintel/api"
	"lintel/parse"
	"lintel/scope"
	"lintel/show"
	"lintel/tree"
)

// read is the bindings and uses of a tree that breaks no rule.
func read(t *testing.T, l []api.Node) ([]api.Binding, []api.Use) {
	t.Helper()
	bindings, e := scope.Bindings(l)
	if e != api.OK {
		t.Fatalf("Bindings(%.500s): error %d", fmt.Sprint(l), e)
	}
	uses, e := scope.Uses(l)
	if e != api.OK {
		t.Fatalf("Uses(%.500s): error %d", fmt.Sprint(l), e)
	}
	return bindings, uses
}

// P10.1, P10.2: at trees as they come, against the chapter's words asked from below.
func TestGrown(t *testing.T) {
	times := make(map[string]int)
	count := func(what string, is bool) {
		if is {
			times[what]++
		}
	}
	grown(t, 1, 9000, func(g *grower, l []api.Node) {
		bindings, uses := read(t, l)
		wantBindings, wantUses := newOracle(l).read()
		if !slices.Equal(bindings, wantBindings) {
			t.Fatalf("%v: bindings\n%v, not\n%v", l, bindings, wantBindings)
		}
		if !slices.Equal(uses, wantUses) {
			t.Fatalf("%v: uses\n%v, not\n%v", l, uses, wantUses)
		}
		for _, b := range bindings {
			times["binding "+kinds[b.Kind]]++
			times["of "+nodes[l[b.Scope].Kind]]++
			count("taken "+kinds[b.Kind], b.Taken)
			count("turns", b.Turns)
		}
		for _, u := range uses {
			count("global", u.Bind < 0)
			if u.Bind >= 0 {
				times["use "+kinds[bindings[u.Bind].Kind]]++
				count("asks", u.Asks)
			}
		}
	})
	if len(times) < 5+6+9+6+4 || slices.Min(slices.Collect(maps.Values(times))) < 50 {
		t.Errorf("something hardly ever comes: %v", times)
	}
}

// P10.3, P10.4: at all nodes of trees as they come.
func TestGrownFree(t *testing.T) {
	times := make([]int, 4) // by how many are free, the last one of more, too
	grown(t, 2, 700, func(g *grower, l []api.Node) {
		o := newOracle(l)
		bindings, uses := o.read()
		for n := range l {
			got, e := scope.Free(l, n)
			want := o.free(n, bindings, uses)
			if e != api.OK || !slices.Equal(got, want) {
				t.Fatalf("%v: free of %d: %v, error %d, not %v", l, n, got, e, want)
			}
			if o.isFunction(n) {
				times[min(len(got), 3)]++
			}
		}
		got, e := scope.Globals(l)
		if want := o.globals(uses); e != api.OK || !slices.Equal(got, want) {
			t.Fatalf("%v: globals %q, error %d, not %q", l, got, e, want)
		}
	})
	if slices.Min(times) < 20 {
		t.Errorf("some number of free ones hardly ever comes: %v", times)
	}
}

// P10.5: a use means a binding of its own name, of a scope about it, and no scope between has one of that name.
func TestNearest(t *testing.T) {
	grown(t, 3, 3000, func(g *grower, l []api.Node) {
		bindings, uses := read(t, l)
		o := newOracle(l)
		for _, u := range uses {
			about := o.about(u.Node)
			between := about
			if u.Bind >= 0 {
				b := bindings[u.Bind]
				at := slices.Index(about, b.Scope)
				if b.Name != l[u.Node].Text || at < 0 {
					t.Fatalf("%v: %v means %v", l, u, b)
				}
				between = about[:at]
			}
			for _, b := range bindings {
				at := slices.Index(between, b.Scope)
				if at < 0 || b.Name != l[u.Node].Text {
					continue
				}
				from := u.Node
				if at > 0 {
					from = between[at-1]
				}
				if !o.is(b.Scope, api.NodeSwitch) || from != l[b.Scope].Kids[0] {
					t.Fatalf("%v: %v does not mean the nearer %v", l, u, b)
				}
			}
		}
	})
}

// renamed is a tree in which all bindings of a name, and the uses that mean them, have another.
func renamed(l []api.Node, bindings []api.Binding, uses []api.Use, from, to string) []api.Node {
	out := slices.Clone(l)
	for _, b := range bindings {
		if b.Name == from {
			out[b.Node].Text = to
		}
	}
	for _, u := range uses {
		if u.Bind >= 0 && bindings[u.Bind].Name == from {
			out[u.Node].Text = to
		}
	}
	return out
}

// P10.6: with another name bindings, uses and what is asked stay the same, but for it.
func TestRenamed(t *testing.T) {
	grown(t, 4, 3000, func(g *grower, l []api.Node) {
		bindings, uses := read(t, l)
		if len(bindings) == 0 {
			return
		}
		from := bindings[g.Intn(len(bindings))].Name
		other := renamed(l, bindings, uses, from, "other")
		gotBindings, gotUses := read(t, other)
		for i := range bindings {
			if bindings[i].Name == from {
				bindings[i].Name = "other"
			}
		}
		if !slices.Equal(gotBindings, bindings) || !slices.Equal(gotUses, uses) {
			t.Fatalf("%v: %s renamed: %v, %v, not %v, %v", l, from, gotBindings, gotUses, bindings, uses)
		}
		if len(uses) > 0 {
			n := uses[g.Intn(len(uses))].Func
			if got, want := free(t, other, n), free(t, l, n); !slices.Equal(got, want) {
				t.Fatalf("%v: %s renamed: free of %d: %v, not %v", l, from, n, got, want)
			}
		}
		if got, want := globals(t, other), globals(t, l); !slices.Equal(got, want) {
			t.Fatalf("%v: %s renamed: globals %q, not %q", l, from, got, want)
		}
	})
}

func free(t *testing.T, l []api.Node, n int) []int {
	t.Helper()
	out, e := scope.Free(l, n)
	if e != api.OK {
		t.Fatalf("%v: free of %d: error %d", l, n, e)
	}
	return out
}

func globals(t *testing.T, l []api.Node) []string {
	t.Helper()
	out, e := scope.Globals(l)
	if e != api.OK {
		t.Fatalf("%v: globals: error %d", l, e)
	}
	return out
}

// P10.1, P10.2: neither nodes' numbers nor their places change what names mean: a tree that is read again from its source has the same.
func TestReadAgain(t *testing.T) {
	count := 0
	grown(t, 5, 3000, func(g *grower, l []api.Node) {
		src, e := show.Source(l)
		again, at, parseE := parse.Script(src)
		if e != api.OK || parseE != api.OK {
			t.Fatalf("%q: error %d; %d, error %d", src, e, at, parseE)
		}
		if len(again) != len(l) {
			return // a tree of no source: a getter's function with a name
		}
		a, b := walked(l), walked(again)
		if !slices.EqualFunc(a, b, func(n, m int) bool { return l[n].Kind == again[m].Kind && l[n].Text == again[m].Text }) {
			return
		}
		count++
		to := make([]int, len(l)) // by numbers in l: those in again
		for i, n := range a {
			to[n] = b[i]
		}
		bindings, uses := read(t, l)
		for i, x := range bindings {
			bindings[i].Node, bindings[i].Scope, bindings[i].Func = to[x.Node], to[x.Scope], to[x.Func]
		}
		for i, x := range uses {
			uses[i].Node, uses[i].Func = to[x.Node], to[x.Func]
		}
		gotBindings, gotUses := read(t, again)
		if !slices.Equal(gotBindings, bindings) || !slices.Equal(gotUses, uses) {
			t.Fatalf("%q: %v, %v, not %v, %v", src, gotBindings, gotUses, bindings, uses)
		}
	})
	if count < 1000 {
		t.Errorf("just %d trees are those of a source", count)
	}
}

func walked(l []api.Node) []int {
	var out []int
	for n := range tree.Walk(l) {
		out = append(out, n)
	}
	return out
}
