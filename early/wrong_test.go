package early_test

import (
	"fmt"
	"math"
	"reflect"
	"slices"
	"strconv"
	"strings"
	"testing"
	"time"
	"unsafe"

	"lintel/api"
	"lintel/early"
	"lintel/tree"
)

// refused asks for what is answered of a list that tree.Check refuses with that error.
func refused(t *testing.T, about string, l []api.Node, want api.Errno) {
	t.Helper()
	if _, e := tree.Check(l); e != want {
		t.Fatalf("%s: tree.Check's error is %d, not %d", about, e, want)
	}
	if at, e := early.Check(l); at != 0 || e != want {
		t.Errorf("%s: Check: %d, error %d, not 0, error %d", about, at, e, want)
	}
	if got := all(l); len(got) > 0 {
		t.Errorf("%s: All: %v", about, got)
	}
	for _, n := range []int{math.MinInt, -1, 0, len(l) / 2, len(l) - 1, len(l), math.MaxInt} {
		if got := early.Names(l, n); len(got) > 0 {
			t.Errorf("%s: names of %d: %q", about, n, got)
		}
	}
}

// P9.1, P9.2, P9.3: lists that are no trees, though rules are broken in them.
func TestRefused(t *testing.T) {
	refused(t, "nil", nil, api.ErrTree)
	refused(t, "empty", []api.Node{}, api.ErrTree)
	for _, x := range []struct {
		about string
		spoil func(l []api.Node)
	}{
		{"a kid below 0", func(l []api.Node) { l[len(l)-1].Kids[0] = -1 }},
		{"a kid past the end", func(l []api.Node) { l[len(l)-1].Kids[0] = len(l) }},
		{"a kid beyond all", func(l []api.Node) { l[len(l)-1].Kids[0] = math.MaxInt }},
		{"its own kid", func(l []api.Node) { l[len(l)-1].Kids[0] = len(l) - 1 }},
		{"a kid twice", func(l []api.Node) { l[len(l)-1].Kids[0] = l[len(l)-1].Kids[1] }},
		{"a place below 0", func(l []api.Node) { l[0].At = -1 }},
		{"no kids", func(l []api.Node) { l[len(l)-1].Kids = nil }},
		{"no script", func(l []api.Node) { l[len(l)-1].Kind = api.NodeBlock }},
		{"no kind", func(l []api.Node) { l[0].Kind = 0 }},
		{"a kind below 0", func(l []api.Node) { l[0].Kind = math.MinInt }},
		{"a kind beyond all", func(l []api.Node) { l[0].Kind = math.MaxInt }},
		{"no name", func(l []api.Node) { l[0].Text = "" }},
		{"a word for a name", func(l []api.Node) { l[0].Text = "let" }},
	} {
		l := parsed(t, "let a; let a; return; delete arguments; function eval(b, b) { break; } try {} catch (e) { let e; }")
		x.spoil(l)
		refused(t, x.about, l, api.ErrTree)
	}
}

// P1: lists of nodes as they come, whose kids are as they come.
func TestNoTrees(t *testing.T) {
	grown(t, 5, 3000, func(g grower, l []api.Node) {
		for range 1 + g.Intn(3) {
			n := &l[g.Intn(len(l))]
			switch g.Intn(3) {
			case 0:
				n.Kind = g.Intn(60) - 1
			case 1:
				n.Kids = append(slices.Clone(n.Kids), g.Intn(len(l)+2)-1)
			default:
				n.Text = g.pick("", "a", "delete", "++", "eval")
			}
		}
		if _, e := tree.Check(l); e != api.OK {
			refused(t, fmt.Sprint(l), l, e)
		}
	})
}

// labels is a source of so many labels within one another ahead of a statement.
func labels(count int, statement string) string {
	var b strings.Builder
	for i := range count {
		b.WriteString("a" + strconv.Itoa(i) + ": ")
	}
	return b.String() + statement
}

// P9.1: as deep as may be, and deeper.
func TestDeep(t *testing.T) {
	deepest := api.MaxDeep - 2 // the script, and the statement
	hold(t, labels(deepest, "break a0;"), labels(deepest, "@4continue a0;"), labels(deepest, "@4break b;"), labels(deepest-1, "@5a0: break a0;"))
	hold(t, labels(deepest-1, "while (1) continue a0;"), labels(deepest-2, "while (1) { @4continue b; }"))
	l := parsed(t, labels(deepest, "break b;"))
	last := len(l) - 1
	deeper := append(l[:last:last], api.Node{Kind: api.NodeBlock, Kids: []int{last - 1}}, api.Node{Kind: api.NodeScript, Kids: []int{last}})
	refused(t, "deeper", deeper, api.ErrDeep)
}

// P9.1, P9.2: as many nodes as may be, and more.
func TestMany(t *testing.T) {
	var l []api.Node
	var kids []int
	for i := 0; len(l) < api.MaxNodes-1; i++ {
		l = append(l, api.Node{Kind: api.NodeReturn, At: api.MaxNodes - i})
		kids = append(kids, i)
	}
	l = append(l, api.Node{Kind: api.NodeScript, Kids: kids})
	if at, e := early.Check(l); at != 2 || e != api.ErrEarly || len(all(l)) != api.MaxNodes-1 {
		t.Errorf("%d, error %d, %d nodes", at, e, len(all(l)))
	}
	more := append(slices.Clone(l[:len(l)-1]), l[0], l[len(l)-1])
	refused(t, "too many", more, api.ErrLong)
}

// P1: no call takes longer than the nodes' number lets expect, whatever is asked of them.
func TestSoonDone(t *testing.T) {
	many := func(count int, s string) string { return strings.Repeat(s, count) }
	numbered := func(count int, ahead, behind string) string {
		var b strings.Builder
		for i := range count {
			b.WriteString(ahead + strconv.Itoa(i) + behind)
		}
		return b.String()
	}
	for _, x := range []struct {
		src  string
		told int
	}{
		{many(30000, "let a;"), 29999},
		{"let " + numbered(24000, "a", ",") + "a0", 1},
		{"switch (a) {" + numbered(13000, "case 1: let b", ";") + "default: let b0; }", 1},
		{"function f(" + numbered(24000, "a", ",") + "b) { let b; }", 1},
		{labels(190, "{"+many(20000, "break a0;")+"}"), 0},
		{labels(100, "{"+many(9000, "b: c: ;")+"}"), 0},
		{labels(150, "while (1) {"+many(18000, "continue b;")+"}"), 18000},
		{many(6000, "try {} catch (eval) { let eval; }"), 12000},
	} {
		begun := time.Now()
		l := parsed(t, x.src)
		if got := all(l); len(got) != x.told {
			t.Errorf("%.60s..: %d are told, not %d", x.src, len(got), x.told)
		}
		early.Check(l)
		early.Names(l, len(l)-1)
		if took := time.Since(begun); took > 20*time.Second {
			t.Errorf("%.60s..: %v", x.src, took)
		}
	}
}

// spare is a list with nodes, and kids, behind its length.
func spare(l []api.Node) []api.Node {
	out := make([]api.Node, len(l), len(l)+3)
	for i, n := range l {
		n.Kids = append(make([]int, 0, len(n.Kids)+4), n.Kids...)
		copy(n.Kids[:cap(n.Kids)][len(n.Kids):], []int{7, 7, 7, 7})
		out[i] = n
	}
	return out
}

// whole is a list with all that lies behind the lengths, in memory of its own.
func whole(l []api.Node) []api.Node {
	out := slices.Clone(l[:cap(l)])
	for i, n := range out {
		out[i].Kids = slices.Clone(n.Kids[:cap(n.Kids)])
	}
	return out
}

// P2, P3: what is given stays as it is, with what lies behind; the same is answered again.
func TestNothingChanged(t *testing.T) {
	grown(t, 6, 300, func(g grower, l []api.Node) {
		given := spare(l)
		ahead, want := whole(given), all(l)
		at, e := early.Check(l)
		for range 2 {
			if gotAt, gotE := early.Check(given); gotAt != at || gotE != e {
				t.Fatalf("%v: %d, error %d, not %d, error %d", l, gotAt, gotE, at, e)
			}
			if got := all(given); !slices.Equal(got, want) {
				t.Fatalf("%v: %v, not %v", l, got, want)
			}
			for n := range given {
				if got, want := early.Names(given, n), early.Names(l, n); !slices.Equal(got, want) {
					t.Fatalf("%v: names of %d: %q, not %q", l, n, got, want)
				}
			}
		}
		if !reflect.DeepEqual(whole(given), ahead) {
			t.Fatalf("%v was changed", l)
		}
	})
}

// P9.2: the iterator may be left, gone over again, and within itself; what is done to the list later is not seen.
func TestIterator(t *testing.T) {
	l := parsed(t, "return; delete a; break; let a, a;")
	want := all(l)
	if len(want) != 4 {
		t.Fatalf("%v", want)
	}
	seq := early.All(l)
	for leave := range want {
		count := 0
		for rule, n := range seq {
			if (told{rule, n}) != want[count] {
				t.Errorf("%d: %d, %d", count, rule, n)
			}
			if count++; count > leave {
				break
			}
		}
		if count != leave+1 {
			t.Errorf("left at %d, not %d", count, leave+1)
		}
	}
	inner := 0
	for range seq {
		for range seq {
			inner++
		}
	}
	clear(l)
	var later []told
	for rule, n := range seq {
		later = append(later, told{rule, n})
	}
	if inner != 16 || !slices.Equal(later, want) {
		t.Errorf("%d within; later %v", inner, later)
	}
}

// P2: names share no memory with the nodes, nor with another answer.
func TestNamesAreNew(t *testing.T) {
	l := parsed(t, "let abc, def;")
	a, b := early.Names(l, len(l)-1), early.Names(l, len(l)-1)
	if len(a) != 2 || len(b) != 2 {
		t.Fatalf("%q, %q", a, b)
	}
	a[0] = "x"
	if b[0] != "abc" || unsafe.StringData(a[1]) == unsafe.StringData(b[1]) {
		t.Errorf("two answers share memory: %q", b)
	}
	for _, n := range l {
		if n.Text == "def" && unsafe.StringData(n.Text) == unsafe.StringData(b[1]) {
			t.Errorf("a node and an answer share memory")
		}
	}
}
