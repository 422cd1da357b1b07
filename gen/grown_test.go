package gen_test

import (
	"fmt"
	"slices"
	"testing"

	"lintel/api"
	"lintel/check"
	"lintel/code"
	"lintel/gen"
	"lintel/tree"
)

// made is the module of a tree; it may run, and be written as bytes.
func made(t *testing.T, about string, l []api.Node) api.Module {
	t.Helper()
	m, at, e := gen.Script(l)
	if at != 0 || e != api.OK {
		t.Fatalf("%.500s: %d, error %d", about, at, e)
	}
	if f, at, e := check.Check(m); e != api.OK {
		t.Fatalf("%.500s: function %d, instruction %d, error %d", about, f, at, e)
	}
	if _, e := code.Encode(m); e != api.OK {
		t.Fatalf("%.500s: no bytes: error %d", about, e)
	}
	return m
}

// begins says whether one of two traces is the other's beginning.
func begins(a, b []string) bool {
	n := min(len(a), len(b))
	return slices.Equal(a[:n], b[:n])
}

// agree asks whether a module does what its tree says, within the fuel that P21.15 gives it.
func agree(t *testing.T, about string, l []api.Node, m api.Module) {
	t.Helper()
	want := runTree(l, newWorld(3000, "one", "two"))
	most := 200*want.steps + 2000
	got := runModule(m, newWorld(most, "one", "two"))
	stopped := want.End == api.EndFuel || got.End == api.EndFuel && got.steps < most
	switch {
	case got.End == api.EndStuck, stopped && !begins(want.Trace, got.Trace),
		!stopped && (got.End != want.End || got.Value != want.Value || !slices.Equal(got.Trace, want.Trace)):
		t.Errorf("%s\nend %d (%s), %s, trace %q,\nnot end %d, %s, trace %q", about, got.End, got.why, got.Value, got.Trace, want.End, want.Value, want.Trace)
	}
}

// P13.1, P13.3: scripts as they come may run, and do what their trees say.
func TestGrown(t *testing.T) {
	for shard := range 8 {
		t.Run(fmt.Sprint(shard), func(t *testing.T) {
			t.Parallel()
			for i := range 400 {
				g := newGrower(int64(1000*shard+i), i%2 == 0)
				src := g.program(1 + i%5)
				l := parsed(t, src)
				agree(t, src, l, made(t, src, l))
				if t.Failed() {
					return
				}
			}
		})
	}
}

// functionsOf is the functions that a tree must have, as P13.4 says.
func functionsOf(l []api.Node) []string {
	var out []string
	for n := range tree.Walk(l) {
		switch node := l[n]; node.Kind {
		case api.NodeScript:
			out = append(out, headOf("", 0, false, false))
		case api.NodeFunc, api.NodeArrow, api.NodeFun:
			params := l[node.Kids[0]].Kids
			count, rest := len(params), false
			if count > 0 && l[params[count-1]].Kind == api.NodeRest {
				count, rest = count-1, true
			}
			out = append(out, headOf(node.Text, count, rest, node.Kind == api.NodeArrow))
		}
	}
	return out
}

func headOf(name string, params int, rest, arrow bool) string {
	return fmt.Sprintf("%s %d %t %t", name, params, rest, arrow)
}

// P13.4, P13.5: the functions of scripts as they come; the same tree makes the same module, whatever its nodes' places are, and however
// they are numbered.
func TestGrownModules(t *testing.T) {
	for i := range 400 {
		g := newGrower(int64(100000+i), false)
		src := g.program(1 + i%4)
		l := parsed(t, src)
		m := made(t, src, l)
		if got, want := headsOf(m), functionsOf(l); !slices.Equal(got, want) {
			t.Errorf("%s\nfunctions %q, not %q", src, got, want)
		}
		if !code.Same(m, made(t, src, l)) {
			t.Errorf("%s\nanother module", src)
		}
		for n := range l {
			l[n].At = g.Intn(1000)
		}
		if !code.Same(m, made(t, src, l)) {
			t.Errorf("%s\nanother module of other places", src)
		}
		if !code.Same(m, made(t, src, g.shuffled(l))) {
			t.Errorf("%s\nanother module of other numbers", src)
		}
	}
}

// shuffled is a tree whose nodes stand in any order that lets kids stand ahead.
func (g *grower) shuffled(l []api.Node) []api.Node {
	ups, owed, numbers := tree.Ups(l), make([]int, len(l)), make([]int, len(l))
	var ready []int
	for n := range l {
		if owed[n] = len(l[n].Kids); owed[n] == 0 {
			ready = append(ready, n)
		}
	}
	var out []api.Node
	for len(ready) > 0 {
		i := g.Intn(len(ready))
		n := ready[i]
		ready = slices.Delete(ready, i, i+1)
		numbers[n] = len(out)
		node := l[n]
		node.Kids = nil
		for _, k := range l[n].Kids {
			node.Kids = append(node.Kids, numbers[k])
		}
		out = append(out, node)
		if up := ups[n]; up >= 0 {
			if owed[up]--; owed[up] == 0 {
				ready = append(ready, up)
			}
		}
	}
	return out
}
