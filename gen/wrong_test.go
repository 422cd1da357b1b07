package gen_test

import (
	"math"
	"reflect"
	"slices"
	"strings"
	"sync"
	"testing"
	"unsafe"

	"lintel/api"
	"lintel/check"
	"lintel/code"
	"lintel/early"
	"lintel/gen"
	"lintel/tree"
)

// P13.1: lists that are no trees, though rules are broken in them.
func TestNoTree(t *testing.T) {
	refused(t, "nil", nil, 0, api.ErrTree)
	refused(t, "empty", []api.Node{}, 0, api.ErrTree)
	for _, x := range []struct {
		about string
		spoil func(l []api.Node)
	}{
		{"a kid below 0", func(l []api.Node) { l[len(l)-1].Kids[0] = -1 }},
		{"a kid past the end", func(l []api.Node) { l[len(l)-1].Kids[0] = len(l) }},
		{"its own kid", func(l []api.Node) { l[len(l)-1].Kids[0] = len(l) - 1 }},
		{"a kid twice", func(l []api.Node) { l[len(l)-1].Kids[0] = l[len(l)-1].Kids[1] }},
		{"a place below 0", func(l []api.Node) { l[0].At = -1 }},
		{"no kids", func(l []api.Node) { l[len(l)-1].Kids = nil }},
		{"no script", func(l []api.Node) { l[len(l)-1].Kind = api.NodeBlock }},
		{"no kind", func(l []api.Node) { l[0].Kind = 0 }},
		{"a kind beyond all", func(l []api.Node) { l[0].Kind = math.MaxInt }},
		{"no name", func(l []api.Node) { l[0].Text = "" }},
	} {
		l := parsed(t, "let a; let a; return; function f(b) { b; try {} catch (e) { e; } }")
		x.spoil(l)
		refused(t, x.about, l, 0, api.ErrTree)
	}
	deep := &builder{}
	in := deep.name()
	for range api.MaxDeep - 2 {
		in = deep.add(api.NodeArray, "", in)
	}
	deep.add(api.NodeScript, "", deep.add(api.NodeExpr, "", in))
	refused(t, "too deep", deep.l, 0, api.ErrDeep)
	long := repeated(parsed(t, ";;;;;;;;;;"), api.MaxNodes+20)
	refused(t, "too long", long, 0, api.ErrLong)
}

// P13.1: trees that break a rule: the place of the node with the least one.
func TestBroken(t *testing.T) {
	for src, at := range map[string]int{
		"let a; let a;": 11, "const a;": 6, "; break;": 2, "continue a;": 0, "a: a: ;": 3, " return;": 1, "let eval;": 4, "arguments;": 0, "delete a;": 0, "return; let a; let a;": 0,
		"a => { let a; };": 11, "try {} catch (e) { let e; }": 23, "switch (1) { case 1: let a; case 2: let a; }": 40, "() => { () => { () => delete a; }; };": 22,
	} {
		refused(t, src, parsed(t, src), at, api.ErrEarly)
	}
	l := parsed(t, "let a; let a; return;")
	for n := range l {
		l[n].At = 1000 - n // the return's node is the last of those that are told
	}
	at, _ := early.Check(l)
	refused(t, "other places", l, at, api.ErrEarly)
}

// P1, P13.1: lists of nodes as they come: what is no tree, or breaks a rule, is refused as tree and early say; the rest may run.
func TestNoTrees(t *testing.T) {
	fine := 0
	for i := range 3000 {
		g := newGrower(int64(i), true)
		l := parsed(t, g.program(1 + i%3)[len(prelude):])
		for range 1 + g.Intn(3) {
			n := &l[g.Intn(len(l))]
			switch g.Intn(4) {
			case 0:
				n.Kind = g.Intn(60) - 1
			case 1:
				n.Kids = append(slices.Clone(n.Kids), g.Intn(len(l)+2)-1)
			case 2:
				n.Kind = g.Intn(27) + 1
			default:
				n.Text = g.pick("", "a", "delete", "++", "eval", "b")
			}
		}
		wantAt, want := early.Check(l)
		if _, e := tree.Check(l); e != api.OK && (wantAt != 0 || want != e) {
			t.Fatalf("%v: early.Check answers %d, error %d", l, wantAt, want)
		}
		m, at, e := gen.Script(l)
		if at != wantAt || e != want {
			t.Fatalf("%v: %d, error %d, not %d, error %d", l, at, e, wantAt, want)
		}
		if e != api.OK {
			continue
		}
		fine++
		if f, at, e := check.Check(m); e != api.OK {
			t.Fatalf("%v: function %d, instruction %d, error %d", l, f, at, e)
		}
		agree(t, "as it comes", l, m)
	}
	if fine < 50 {
		t.Errorf("just %d of them are trees", fine)
	}
}

// spare is a list with nodes, and kids, behind its length.
func spare(l []api.Node) []api.Node {
	out := make([]api.Node, len(l), len(l)+3)
	for i, n := range l {
		n.Kids = append(make([]int, 0, len(n.Kids)+4), n.Kids...)
		copy(n.Kids[:cap(n.Kids)][len(n.Kids):], []int{7, 7, 7, 7})
		out[i] = n
	}
	return out
}

// whole is a list with all that lies behind the lengths, in memory of its own.
func whole(l []api.Node) []api.Node {
	out := slices.Clone(l[:cap(l)])
	for i, n := range out {
		out[i].Kids = slices.Clone(n.Kids[:cap(n.Kids)])
	}
	return out
}

// wipe changes all lists of a module.
func wipe(m api.Module) {
	for _, f := range m.Fns {
		clear(f.Consts)
		clear(f.Code)
		clear(f.Tries)
		clear(f.Caps)
	}
	clear(m.Fns)
}

// P2, P3, P13.5: what is given stays as it is, with what lies behind; the same is answered again, whatever was done to an answer, and
// whoever asks at the same time.
func TestNothingChanged(t *testing.T) {
	for i := range 200 {
		src := newGrower(int64(i), false).program(1 + i%4)
		l := parsed(t, src)
		given := spare(l)
		ahead, m := whole(given), made(t, src, l)
		var all sync.WaitGroup
		for range 3 {
			all.Go(func() {
				got, _, _ := gen.Script(given)
				if !code.Same(got, m) {
					t.Errorf("%s\nanother module", src)
				}
				wipe(got)
			})
		}
		all.Wait()
		if got, _, _ := gen.Source(src); !code.Same(got, m) {
			t.Errorf("%s\nSource makes another module", src)
		}
		if !reflect.DeepEqual(whole(given), ahead) {
			t.Fatalf("%s\nthe nodes were changed", src)
		}
	}
}

// P2: no list of an answer shares memory with another: what is put behind one changes none.
func TestListsApart(t *testing.T) {
	src := newGrower(5, false).program(4)
	l := parsed(t, src)
	m, want := made(t, src, l), made(t, src, l)
	for i := range m.Fns {
		f := &m.Fns[i]
		_ = append(f.Code, api.Ins{Op: 70})
		_ = append(f.Consts, api.Value{Kind: api.Number})
		_ = append(f.Tries, api.Try{From: 1})
		_ = append(f.Caps, api.Capture{N: 1})
	}
	if !code.Same(m, want) {
		t.Error("lists share memory")
	}
}

// P2: texts share no memory with the nodes.
func TestTextsAreNew(t *testing.T) {
	src := "let abc = 'some text'; function def() { return abc.def[`x${'some text'}yz`]; } ghi = { 'jkl': 1 };"
	l := parsed(t, src)
	var given [][2]uintptr
	note := func(s string) {
		if s != "" {
			from := uintptr(unsafe.Pointer(unsafe.StringData(s)))
			given = append(given, [2]uintptr{from, from + uintptr(len(s))})
		}
	}
	note(src)
	for _, n := range l {
		note(n.Text)
		note(string(n.Str))
	}
	texts := 0
	hold := func(s api.Str) {
		at := uintptr(unsafe.Pointer(unsafe.StringData(string(s))))
		if slices.ContainsFunc(given, func(g [2]uintptr) bool { return s != "" && g[0] <= at && at < g[1] }) {
			t.Errorf("%q shares memory", s)
		}
		texts++
	}
	for _, f := range made(t, src, l).Fns {
		hold(f.Name)
		for _, c := range f.Consts {
			hold(c.Str)
		}
	}
	if texts < 8 {
		t.Errorf("just %d texts", texts)
	}
}

// P1: bytes as they come.
func TestAnySource(t *testing.T) {
	g := newGrower(9, false)
	for range 2000 {
		src := []byte(g.program(1)[len(prelude):])
		for range g.Intn(3) {
			src[g.Intn(len(src))] = byte(g.Intn(256))
		}
		m, at, e := gen.Source(string(src))
		if e != api.OK && len(m.Fns) > 0 || at < 0 || at > len(src) {
			t.Fatalf("%q: %d functions, %d, error %d", src, len(m.Fns), at, e)
		}
		if e == api.OK && at != 0 {
			t.Fatalf("%q: %d", src, at)
		}
	}
	for _, src := range []string{strings.Repeat("{", 400), strings.Repeat("a=>", 400) + "1", "\x00", "\xff\xfe", strings.Repeat("try{", 100)} {
		if m, _, e := gen.Source(src); e == api.OK || len(m.Fns) > 0 {
			t.Errorf("%.20q: error %d", src, e)
		}
	}
}
