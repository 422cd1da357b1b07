package tree_test

import (
	"math"
	"math/rand"
	"slices"
	"strings"
	"testing"
	"unsafe"

	"lintel/api"
	"lintel/tree"
)

// step is what Walk tells of a node.
type step struct{ n, deep int }

// walked is all that Walk tells.
func walked(l []api.Node) []step {
	var out []step
	for n, deep := range tree.Walk(l) {
		out = append(out, step{n, deep})
	}
	return out
}

// walkBy is an oracle for Walk of a tree: what is yet to be told is kept in a list.
func walkBy(l []api.Node) []step {
	var out []step
	left := []step{{len(l) - 1, 0}}
	for len(left) > 0 {
		s := left[len(left)-1]
		left = left[:len(left)-1]
		out = append(out, s)
		for _, k := range slices.Backward(l[s.n].Kids) {
			left = append(left, step{k, s.deep + 1})
		}
	}
	return out
}

// upsBy is an oracle for Ups: the last that is written stands, so those with great numbers come first.
func upsBy(l []api.Node) []int {
	out := slices.Repeat([]int{-1}, len(l))
	for i, n := range slices.Backward(l) {
		for k := range i {
			if slices.Contains(n.Kids, k) {
				out[k] = i
			}
		}
	}
	return out
}

// subBy is an oracle for Sub of a tree.
func subBy(l []api.Node, n int) []api.Node {
	ups := upsBy(l)
	number := map[int]int{}
	var out []api.Node
	for i, k := range l {
		up := i
		for up >= 0 && up != n {
			up = ups[up]
		}
		if up != n {
			continue
		}
		number[i] = len(out)
		k.Kids = nil
		for _, kid := range l[i].Kids {
			k.Kids = append(k.Kids, number[kid])
		}
		out = append(out, k)
	}
	return out
}

// equal says whether two lists are the same, At and all.
func equal(a, b []api.Node) bool {
	return tree.Same(a, b) && slices.EqualFunc(a, b, func(x, y api.Node) bool { return x.At == y.At })
}

// holdTree holds all calls but Check against their oracles.
func holdTree(t *testing.T, l []api.Node) {
	t.Helper()
	given := copied(l)
	if got, want := tree.Ups(l), upsBy(l); !slices.Equal(got, want) {
		t.Fatalf("Ups(%v): %v, not %v", l, got, want)
	}
	deep := 0
	if len(l) > 0 {
		deep = deepBy(l, len(l)-1)
	}
	if got := tree.Deep(l); got != deep {
		t.Fatalf("Deep(%v): %d, not %d", l, got, deep)
	}
	_, e := tree.Check(l)
	steps := walked(l)
	if e != api.OK {
		if len(steps) != 0 {
			t.Fatalf("Walk(%v): %v", l, steps)
		}
		return
	}
	if want := walkBy(l); !slices.Equal(steps, want) {
		t.Fatalf("Walk(%v): %v, not %v", l, steps, want)
	}
	most := 0
	told := make([]int, len(l))
	for _, s := range steps {
		told[s.n]++
		most = max(most, s.deep)
	}
	if slices.Min(told) != 1 || slices.Max(told) != 1 || deep != most+1 {
		t.Fatalf("Walk(%v): %v, Deep %d", l, steps, deep)
	}
	for _, n := range []int{0, len(l) / 3, len(l) / 2, len(l) - 1} {
		if got, e := tree.Sub(l, n); e != api.OK || !equal(got, subBy(l, n)) {
			t.Fatalf("Sub(%v, %d): %v, %d", l, n, got, e)
		}
	}
	if !equal(l, given) {
		t.Fatal("a list was changed")
	}
}

// P6.2: kids that stand ahead alone count; a node may be several's.
func TestDeep(t *testing.T) {
	for _, c := range []struct {
		kids [][]int
		want int
	}{
		{nil, 0},
		{[][]int{nil}, 1},
		{[][]int{{0}}, 1},
		{[][]int{{0, 1, -1, math.MaxInt, math.MinInt}}, 1},
		{[][]int{nil, nil}, 1},
		{[][]int{nil, {0}}, 2},
		{[][]int{nil, {0, 0, 0}}, 2},
		{[][]int{nil, {0}, nil}, 1},
		{[][]int{nil, {0}, {1}, {0}}, 2},
		{[][]int{nil, {0}, {1}, {0, 2}}, 4},
		{[][]int{nil, {0}, {1, 0}, {2, 1}, {3, 2}}, 5},
		{[][]int{{1}, {2}, {3}, nil}, 1},
		{[][]int{{3}, {0}, {1}, {2}}, 4},
		{[][]int{nil, {-1}, {1, 2, 3}, {2, 3}}, 3},
	} {
		l := make([]api.Node, len(c.kids))
		for i, k := range c.kids {
			l[i].Kids = k
		}
		if got := tree.Deep(l); got != c.want {
			t.Errorf("Deep of %v: %d", c.kids, got)
		}
	}
	if got := tree.Deep([]api.Node{}); got != 0 {
		t.Errorf("Deep of none: %d", got)
	}
	for _, n := range []int{2, 3, api.MaxDeep, api.MaxDeep + 1, 300000} {
		if got := tree.Deep(tower(n)); got != n {
			t.Errorf("Deep of a tower of %d: %d", n, got)
		}
	}
}

// P6.2: nodes by which there are far too many ways down take no longer than others.
func TestDeepOfManyWays(t *testing.T) {
	l := make([]api.Node, 5000)
	for i := range l {
		l[i].Kids = []int{i - 1, i - 2, i - 1, i + 1}
	}
	if got := tree.Deep(l); got != len(l) {
		t.Errorf("Deep: %d", got)
	}
}

// P6.3
func TestSame(t *testing.T) {
	nan, other := math.NaN(), math.Float64frombits(0xFFF8000000000001)
	base := api.Node{Kind: 2, Text: "t", Str: "\x00s", Num: 1.5, Kids: []int{1, 2}, At: 3}
	for _, c := range []struct {
		name string
		edit func(n *api.Node)
		want bool
	}{
		{"nothing", func(*api.Node) {}, true},
		{"At", func(n *api.Node) { n.At = -9 }, true},
		{"an odd byte", func(n *api.Node) { n.Str += "x" }, true},
		{"Kind", func(n *api.Node) { n.Kind = 3 }, false},
		{"Text", func(n *api.Node) { n.Text = "T" }, false},
		{"no Text", func(n *api.Node) { n.Text = "" }, false},
		{"Str", func(n *api.Node) { n.Str = "\x00t" }, false},
		{"a unit more", func(n *api.Node) { n.Str += "\x00s" }, false},
		{"Num", func(n *api.Node) { n.Num = 1.25 }, false},
		{"its sign", func(n *api.Node) { n.Num = -1.5 }, false},
		{"NaN", func(n *api.Node) { n.Num = nan }, false},
		{"Kids' order", func(n *api.Node) { n.Kids = []int{2, 1} }, false},
		{"a kid", func(n *api.Node) { n.Kids = []int{1, 3} }, false},
		{"a kid less", func(n *api.Node) { n.Kids = []int{1} }, false},
		{"a kid more", func(n *api.Node) { n.Kids = []int{1, 2, 2} }, false},
	} {
		edited := base
		c.edit(&edited)
		for _, pad := range [][]api.Node{nil, {{Kind: 7}}} {
			a, b := append(slices.Clone(pad), base), append(slices.Clone(pad), edited)
			if tree.Same(a, b) != c.want || tree.Same(b, a) != c.want {
				t.Errorf("%s: not %v", c.name, c.want)
			}
		}
	}
	number := func(x float64) []api.Node { return []api.Node{{Kind: 1, Num: x}} }
	for _, c := range []struct {
		a, b float64
		want bool
	}{{nan, nan, true}, {nan, other, true}, {0, math.Copysign(0, -1), false}, {math.Inf(1), math.Inf(1), true}, {math.Inf(1), math.Inf(-1), false}, {nan, 0, false}} {
		if tree.Same(number(c.a), number(c.b)) != c.want {
			t.Errorf("Same of %v, %v: not %v", c.a, c.b, c.want)
		}
	}
	if !tree.Same(nil, []api.Node{}) || !tree.Same([]api.Node{{Kids: nil}}, []api.Node{{Kids: []int{}}}) {
		t.Error("none and nil are the same")
	}
	two := []api.Node{{Kind: 3}, {Kind: 4}}
	if tree.Same(two, two[:1]) || tree.Same(two[:1], two) || tree.Same(nil, two) || tree.Same(two, []api.Node{{Kind: 4}, {Kind: 3}}) {
		t.Error("lists of other lengths, in another order")
	}
}

// P6.4
func TestWalk(t *testing.T) {
	// The numbers are as they come: the script's second statement stands ahead of its first.
	l := []api.Node{
		{Kind: api.NodeName, Text: "a"}, {Kind: api.NodeNum, Num: 2}, {Kind: api.NodeNum, Num: 1}, {Kind: api.NodeIndex, Kids: []int{0, 2}},
		{Kind: api.NodeExpr, Kids: []int{1}}, {Kind: api.NodeExpr, Kids: []int{3}}, {Kind: api.NodeScript, Kids: []int{5, 4}},
	}
	want := []step{{6, 0}, {5, 1}, {3, 2}, {0, 3}, {2, 3}, {4, 1}, {1, 2}}
	if got := walked(l); !slices.Equal(got, want) {
		t.Fatalf("Walk: %v", got)
	}
	w := tree.Walk(l)
	for most := range len(want) + 1 {
		var got []step
		for n, deep := range w {
			if len(got) == most {
				break
			}
			got = append(got, step{n, deep})
		}
		if !slices.Equal(got, want[:most]) {
			t.Errorf("Walk, left after %d: %v", most, got)
		}
	}
	var pairs []step
	for n := range w {
		for m := range w {
			pairs = append(pairs, step{n, m})
		}
	}
	if len(pairs) != len(want)*len(want) {
		t.Errorf("a walk within a walk: %d", len(pairs))
	}
	if got := walked([]api.Node{{Kind: api.NodeScript}}); !slices.Equal(got, []step{{0, 0}}) {
		t.Errorf("Walk of a script of nothing: %v", got)
	}
	for _, l := range [][]api.Node{nil, {}, l[:6], l[1:], append(slices.Clone(l), api.Node{Kind: api.NodeScript}), tower(api.MaxDeep + 1)} {
		if got := walked(l); len(got) != 0 {
			t.Errorf("Walk of no tree: %v", got)
		}
	}
	if got := walked(tower(api.MaxDeep)); len(got) != api.MaxDeep || got[api.MaxDeep-1] != (step{0, api.MaxDeep - 1}) {
		t.Errorf("Walk of a tower: %v", got)
	}
	if got := walked(many(api.MaxNodes)); len(got) != api.MaxNodes || got[1] != (step{0, 1}) {
		t.Errorf("Walk of a wide tree: %d", len(got))
	}
}

// P6.4, P2: what is walked is the list as it was when it was given.
func TestWalkKeepsToItself(t *testing.T) {
	l := script(with(api.NodeExpr, with(api.NodeIndex, one, one)), expr)
	want := walked(l)
	w := tree.Walk(l)
	refused := tree.Walk(l[:3])
	for n := range w {
		l[n].Kids = append(l[n].Kids[:0], slices.Repeat([]int{-1}, len(l[n].Kids))...)
		l[n].Kind = 0
	}
	var again []step
	for n, deep := range w {
		again = append(again, step{n, deep})
	}
	if !slices.Equal(again, want) {
		t.Errorf("Walk shares its list: %v", again)
	}
	l[0], l[1], l[2] = api.Node{Kind: api.NodeEmpty}, api.Node{Kind: api.NodeEmpty}, api.Node{Kind: api.NodeScript, Kids: []int{0, 1}}
	for n := range refused {
		t.Errorf("what was no tree when it was given: %d", n)
	}
}

// P6.4: of any nodes.
func TestUps(t *testing.T) {
	for _, c := range []struct {
		kids [][]int
		want []int
	}{
		{nil, nil},
		{[][]int{nil}, []int{-1}},
		{[][]int{{0}}, []int{-1}},
		{[][]int{nil, {0}, {1}}, []int{1, 2, -1}},
		{[][]int{nil, nil, {1, 0}, {0, 2}}, []int{2, 2, 3, -1}},
		{[][]int{{1}, {0}}, []int{1, -1}},
		{[][]int{{1, 2}, {2}, nil}, []int{-1, -1, -1}},
		{[][]int{{1, 2}, {2}, {0, 1, 2, 3}, {1, 0}}, []int{2, 2, -1, -1}},
		{[][]int{nil, {0, 0}, {0, -1, math.MaxInt, math.MinInt}}, []int{1, -1, -1}},
	} {
		l := make([]api.Node, len(c.kids))
		for i, k := range c.kids {
			l[i].Kids = k
		}
		if got := tree.Ups(l); !slices.Equal(got, c.want) {
			t.Errorf("Ups of %v: %v", c.kids, got)
		}
	}
	if got := tree.Ups([]api.Node{}); len(got) != 0 {
		t.Errorf("Ups of none: %v", got)
	}
}

// within tells whether a text's first byte lies in the memory of another.
func within(a, b string) bool {
	if len(a) == 0 || len(b) == 0 {
		return false
	}
	at := uintptr(unsafe.Pointer(unsafe.StringData(a)))
	from := uintptr(unsafe.Pointer(unsafe.StringData(b)))
	return from <= at && at < from+uintptr(len(b))
}

// P6.5
func TestSub(t *testing.T) {
	l := []api.Node{
		{Kind: api.NodeName, Text: "a", At: 4}, {Kind: api.NodeNum, Num: 2}, {Kind: api.NodeStr, Str: "\x00s", At: 6}, {Kind: api.NodeIndex, Kids: []int{0, 2}, At: 4},
		{Kind: api.NodeExpr, Kids: []int{1}}, {Kind: api.NodeExpr, Kids: []int{3}, At: 4}, {Kind: api.NodeScript, Kids: []int{5, 4}},
	}
	want := []api.Node{{Kind: api.NodeName, Text: "a", At: 4}, {Kind: api.NodeStr, Str: "\x00s", At: 6}, {Kind: api.NodeIndex, Kids: []int{0, 1}, At: 4},
		{Kind: api.NodeExpr, Kids: []int{2}, At: 4}}
	if got, e := tree.Sub(l, 5); e != api.OK || !equal(got, want) {
		t.Errorf("Sub: %v, %d", got, e)
	}
	if got, e := tree.Sub(l, 6); e != api.OK || !equal(got, l) {
		t.Errorf("Sub of all: %v, %d", got, e)
	}
	for n := range l {
		if got, e := tree.Sub(l, n); e != api.OK || !equal(got, subBy(l, n)) {
			t.Errorf("Sub of %d: %v, %d", n, got, e)
		}
	}
	wrong := l[:6]
	for _, c := range []struct {
		l    []api.Node
		n    int
		want api.Errno
	}{
		{l, -1, api.ErrRange}, {l, 7, api.ErrRange}, {l, math.MaxInt, api.ErrRange}, {l, math.MinInt, api.ErrRange}, {nil, 0, api.ErrRange}, {nil, -1, api.ErrRange},
		{wrong, 6, api.ErrRange}, {wrong, -1, api.ErrRange}, {wrong, 0, api.ErrTree}, {wrong, 5, api.ErrTree},
		{tower(api.MaxDeep + 1), 0, api.ErrDeep}, {tower(api.MaxDeep + 1), api.MaxDeep + 1, api.ErrRange},
		{many(api.MaxNodes + 1), 0, api.ErrLong}, {many(api.MaxNodes + 1), api.MaxNodes + 1, api.ErrRange},
	} {
		if got, e := tree.Sub(c.l, c.n); len(got) != 0 || e != c.want {
			t.Errorf("Sub of %d nodes, %d: %v, %d", len(c.l), c.n, got, e)
		}
	}
}

// P6.5, P2: what is answered is nobody else's, and what is given stays as it is.
func TestSubKeepsToItself(t *testing.T) {
	l := script(with(api.NodeExpr, with(api.NodeIndex, name, str(api.Str(strings.Repeat("\x00s", 9))))), expr)
	l[0].Text = strings.Repeat("a", 9)
	l[3].Str = "x" // an odd byte: none in the answer
	l = append(l, api.Node{Kind: 99})[:len(l)]
	given := copied(l[:len(l)+1])
	a, _ := tree.Sub(l, 3)
	b, _ := tree.Sub(l, 3)
	if len(a) != 4 || within(a[0].Text, l[0].Text) || within(a[0].Text, b[0].Text) {
		t.Error("Sub shares a Text")
	}
	if within(string(a[1].Str), string(l[1].Str)) || within(string(a[1].Str), string(b[1].Str)) || a[3].Str != "" {
		t.Error("Sub shares a Str, or hands out an odd byte")
	}
	for i := range a {
		a[i].Text, a[i].At = "z", 9
		for j := range a[i].Kids {
			a[i].Kids[j] = 9
		}
		a[i].Kids = append(a[i].Kids, 9)
	}
	if !equal(l[:len(l)+1], given) || !equal(b, subBy(l, 3)) {
		t.Error("Sub's answer shares its lists")
	}
}

// P6.4, P2: Ups' answers are lists of their own.
func TestUpsKeepsToItself(t *testing.T) {
	l := script(expr)
	a, b := tree.Ups(l), tree.Ups(l)
	a[0] = 9
	if b[0] != 1 || !slices.Equal(tree.Ups(l), []int{1, 2, -1}) {
		t.Error("Ups' answers share memory")
	}
}

// P6.6
func TestOperators(t *testing.T) {
	for kind := -3; kind < 70; kind++ {
		want := ""
		switch kind {
		case api.NodeUnary:
			want = unaries
		case api.NodePre, api.NodePost:
			want = steps
		case api.NodeBinary:
			want = binaries
		case api.NodeAssign:
			want = assigns
		}
		if got := tree.Operators(kind); strings.Join(got, " ") != want || len(got) != len(strings.Fields(want)) {
			t.Errorf("Operators(%d): %q", kind, got)
		}
	}
	if got := len(tree.Operators(api.NodeBinary)); got != api.MaxOp-api.OpBinary+1 {
		t.Errorf("%d operators, and not as many instructions", got)
	}
	for _, kind := range []int{math.MinInt, math.MaxInt} {
		if got := tree.Operators(kind); len(got) != 0 {
			t.Errorf("Operators(%d): %q", kind, got)
		}
	}
	a, b := tree.Operators(api.NodeBinary), tree.Operators(api.NodeBinary)
	if within(a[0], b[0]) {
		t.Error("two answers of Operators share memory")
	}
	a[0] = "?"
	if b[0] != "+" || tree.Operators(api.NodeBinary)[0] != "+" {
		t.Error("two answers of Operators share a list")
	}
}

// P6.4, P6.7: deep trees and wide ones, held against the oracles.
func TestTreesMany(t *testing.T) {
	r := rand.New(rand.NewSource(19))
	for i := range 200 {
		l := someTree(r, 9+i%8)
		if e := holdBy(t, l); e != api.OK {
			t.Fatalf("no tree came of it: %d, %v", e, l)
		}
		if got, want := walked(l), walkBy(l); !slices.Equal(got, want) {
			t.Fatalf("Walk(%v): %v", l, got)
		}
		whole, e := tree.Sub(l, len(l)-1)
		if e != api.OK || !equal(whole, l) {
			t.Fatalf("Sub of all of %v: %v", l, whole)
		}
	}
}
