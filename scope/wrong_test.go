package scope_test

import (
	"fmt"
	"math"
	"reflect"
	"slices"
	"strconv"
	"strings"
	"testing"
	"time"
	"unsafe"

	"lintel/api"
	"lintel/early"
	"lintel/scope"
)

// refused asks for the error of a list that early.Check refuses with it, and for nothing beside it.
func refused(t *testing.T, about string, l []api.Node, want api.Errno) {
	t.Helper()
	if _, e := early.Check(l); e != want {
		t.Fatalf("%s: early.Check's error is %d, not %d", about, e, want)
	}
	if got, e := scope.Bindings(l); e != want || len(got) > 0 {
		t.Errorf("%s: Bindings: %v, error %d, not %d", about, got, e, want)
	}
	if got, e := scope.Uses(l); e != want || len(got) > 0 {
		t.Errorf("%s: Uses: %v, error %d, not %d", about, got, e, want)
	}
	if got, e := scope.Globals(l); e != want || len(got) > 0 {
		t.Errorf("%s: Globals: %v, error %d, not %d", about, got, e, want)
	}
	for _, n := range []int{0, len(l) / 2, len(l) - 1} {
		if n < 0 || n >= len(l) {
			continue
		}
		if got, e := scope.Free(l, n); e != want || len(got) > 0 {
			t.Errorf("%s: free of %d: %v, error %d, not %d", about, n, got, e, want)
		}
	}
	outOfRange(t, about, l)
}

// outOfRange asks for what is free of nodes that there aren't.
func outOfRange(t *testing.T, about string, l []api.Node) {
	t.Helper()
	for _, n := range []int{math.MinInt, -1, len(l), len(l) + 1, math.MaxInt} {
		if got, e := scope.Free(l, n); e != api.ErrRange || len(got) > 0 {
			t.Errorf("%s: free of %d: %v, error %d", about, n, got, e)
		}
	}
}

// P10.1 to P10.4: lists that are no trees, though rules are broken in them.
func TestNoTree(t *testing.T) {
	refused(t, "nil", nil, api.ErrTree)
	refused(t, "empty", []api.Node{}, api.ErrTree)
	for _, x := range []struct {
		about string
		spoil func(l []api.Node)
	}{
		{"a kid below 0", func(l []api.Node) { l[len(l)-1].Kids[0] = -1 }},
		{"a kid past the end", func(l []api.Node) { l[len(l)-1].Kids[0] = len(l) }},
		{"its own kid", func(l []api.Node) { l[len(l)-1].Kids[0] = len(l) - 1 }},
		{"a kid twice", func(l []api.Node) { l[len(l)-1].Kids[0] = l[len(l)-1].Kids[1] }},
		{"a place below 0", func(l []api.Node) { l[0].At = -1 }},
		{"no kids", func(l []api.Node) { l[len(l)-1].Kids = nil }},
		{"no script", func(l []api.Node) { l[len(l)-1].Kind = api.NodeBlock }},
		{"no kind", func(l []api.Node) { l[0].Kind = 0 }},
		{"a kind beyond all", func(l []api.Node) { l[0].Kind = math.MaxInt }},
		{"no name", func(l []api.Node) { l[0].Text = "" }},
	} {
		l := parsed(t, "let a; let a; return; function f(b) { b; try {} catch (e) { e; } }")
		x.spoil(l)
		refused(t, x.about, l, api.ErrTree)
	}
}

// P10.1 to P10.4: trees that break a rule.
func TestBroken(t *testing.T) {
	for _, src := range []string{
		"let a; let a;", "const a;", "break;", "continue a;", "a: a: ;", "return;", "let eval;", "arguments;", "delete a;",
		"a => { let a; };", "try {} catch (e) { let e; }", "switch (1) { case 1: let a; case 2: let a; }", "() => { () => { () => delete a; }; };",
	} {
		refused(t, src, parsed(t, src), api.ErrEarly)
	}
	outOfRange(t, "a script", parsed(t, "let a; () => a;"))
}

// P1: lists of nodes as they come.
func TestNoTrees(t *testing.T) {
	grown(t, 6, 1500, func(g *grower, l []api.Node) {
		for range 1 + g.Intn(3) {
			n := &l[g.Intn(len(l))]
			switch g.Intn(3) {
			case 0:
				n.Kind = g.Intn(60) - 1
			case 1:
				n.Kids = append(slices.Clone(n.Kids), g.Intn(len(l)+2)-1)
			default:
				n.Text = g.pick("", "a", "delete", "++", "eval")
			}
		}
		if _, e := early.Check(l); e != api.OK {
			refused(t, fmt.Sprint(l), l, e)
		}
	})
}

// wrapped is a tree of arrows within one another, each with a parameter of its own, about a use of the outermost one's.
func wrapped(count int) []api.Node {
	l := []api.Node{{Kind: api.NodeName, Text: "a0"}}
	for i := count - 1; i >= 0; i-- {
		body := len(l) - 1
		l = append(l, api.Node{Kind: api.NodeName, Text: "a" + strconv.Itoa(i)}, api.Node{Kind: api.NodeParams, Kids: []int{body + 1}}, api.Node{Kind: api.NodeArrow, Kids: []int{body + 2, body}})
	}
	return append(l, api.Node{Kind: api.NodeExpr, Kids: []int{len(l) - 1}}, api.Node{Kind: api.NodeScript, Kids: []int{len(l)}})
}

// P10.1 to P10.4: as deep as may be, and deeper.
func TestDeep(t *testing.T) {
	deepest := api.MaxDeep - 4 // the script, the statement, the innermost parameters and their name
	l := wrapped(deepest)
	bindings, uses := read(t, l)
	if len(bindings) != deepest || !bindings[0].Taken || bindings[1].Taken {
		t.Errorf("%d bindings, %v", len(bindings), bindings[:2])
	}
	if want := []api.Use{{Node: 0, Bind: 0, Func: 3}}; !slices.Equal(uses, want) {
		t.Errorf("%v, not %v", uses, want)
	}
	if got := free(t, l, 3); !slices.Equal(got, []int{0}) {
		t.Errorf("free of the innermost: %v", got)
	}
	refused(t, "deeper", wrapped(deepest+1), api.ErrDeep)
}

// P10.2, P10.4: as many nodes as may be, and more.
func TestMany(t *testing.T) {
	var l []api.Node
	var kids []int
	for len(l) < api.MaxNodes-2 {
		l = append(l, api.Node{Kind: api.NodeName, Text: "a"}, api.Node{Kind: api.NodeExpr, Kids: []int{len(l)}})
		kids = append(kids, len(l)-1)
	}
	l = append(l, api.Node{Kind: api.NodeEmpty})
	kids = append(kids, len(l)-1)
	l = append(l, api.Node{Kind: api.NodeScript, Kids: kids})
	_, uses := read(t, l)
	if len(l) != api.MaxNodes || len(uses) != len(l)/2-1 || !slices.Equal(globals(t, l), []string{"a"}) {
		t.Errorf("%d nodes, %d uses", len(l), len(uses))
	}
	more := append(slices.Clone(l[:len(l)-1]), l[0], l[len(l)-1])
	refused(t, "too many", more, api.ErrLong)
}

// P1: no call takes longer than the nodes' number lets expect.
func TestSoonDone(t *testing.T) {
	numbered := func(count int, ahead, behind string) string {
		var b strings.Builder
		for i := range count {
			b.WriteString(ahead + strconv.Itoa(i) + behind)
		}
		return b.String()
	}
	for _, x := range []struct {
		src            string
		bindings, uses int
	}{
		{"let " + numbered(20000, "a", ",") + "a;" + numbered(10000, "a", ";"), 20001, 10000},
		{"() => {" + numbered(9000, "let a", ";") + numbered(9000, "() => a", ";") + "}", 9000, 9000},
		{numbered(140, "{ let a", ";") + strings.Repeat("b;", 40000) + strings.Repeat("}", 140), 140, 40000},
		{numbered(60, "a => (b", ", ") + strings.Repeat("b,", 30000) + "c" + strings.Repeat(")", 60), 60, 30061},
		{strings.Repeat("try {} catch (e) { e; }", 10000), 10000, 10000},
		{strings.Repeat("for (let a of a) a;", 10000), 10000, 20000},
	} {
		begun := time.Now()
		l := parsed(t, x.src)
		bindings, uses := read(t, l)
		if len(bindings) != x.bindings || len(uses) != x.uses {
			t.Errorf("%.40s..: %d bindings, %d uses", x.src, len(bindings), len(uses))
		}
		free(t, l, len(l)-3)
		globals(t, l)
		if took := time.Since(begun); took > 20*time.Second {
			t.Errorf("%.40s..: %v", x.src, took)
		}
	}
}

// spare is a list with nodes, and kids, behind its length.
func spare(l []api.Node) []api.Node {
	out := make([]api.Node, len(l), len(l)+3)
	for i, n := range l {
		n.Kids = append(make([]int, 0, len(n.Kids)+4), n.Kids...)
		copy(n.Kids[:cap(n.Kids)][len(n.Kids):], []int{7, 7, 7, 7})
		out[i] = n
	}
	return out
}

// whole is a list with all that lies behind the lengths, in memory of its own.
func whole(l []api.Node) []api.Node {
	out := slices.Clone(l[:cap(l)])
	for i, n := range out {
		out[i].Kids = slices.Clone(n.Kids[:cap(n.Kids)])
	}
	return out
}

// P2, P3: what is given stays as it is, with what lies behind; the same is answered again, whatever was done to an answer.
func TestNothingChanged(t *testing.T) {
	grown(t, 7, 300, func(g *grower, l []api.Node) {
		given := spare(l)
		ahead := whole(given)
		bindings, uses := newOracle(l).read()
		for range 2 {
			gotBindings, gotUses := read(t, given)
			if !slices.Equal(gotBindings, bindings) || !slices.Equal(gotUses, uses) {
				t.Fatalf("%v: %v, %v, not %v, %v", l, gotBindings, gotUses, bindings, uses)
			}
			clear(gotBindings)
			clear(gotUses)
			for n := range given {
				got := free(t, given, n)
				if want := newOracle(l).free(n, bindings, uses); !slices.Equal(got, want) {
					t.Fatalf("%v: free of %d: %v, not %v", l, n, got, want)
				}
				clear(got)
			}
			clear(globals(t, given))
		}
		if !reflect.DeepEqual(whole(given), ahead) {
			t.Fatalf("%v was changed", l)
		}
	})
}

// P2: names share no memory with the nodes, nor with another answer, nor with one another.
func TestNamesAreNew(t *testing.T) {
	l := parsed(t, "let abc; (abc => 1); def;")
	var all []string
	for _, n := range l {
		if n.Text != "" {
			all = append(all, n.Text)
		}
	}
	for range 2 {
		bindings, _ := read(t, l)
		for _, b := range bindings {
			all = append(all, b.Name)
		}
		all = append(all, globals(t, l)...)
	}
	if len(all) != 3+2*3 {
		t.Fatalf("%q", all)
	}
	for i, a := range all {
		for j, b := range all {
			if i < j && j >= 3 && unsafe.StringData(a) == unsafe.StringData(b) {
				t.Errorf("%q: names %d and %d share memory", all, i, j)
			}
		}
	}
}
