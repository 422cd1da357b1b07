package vm_test

import (
	"slices"
	"strconv"
	"strings"
	"testing"

	"lintel/api"
	"lintel/vm"
)

// with is what comes of a source on a machine with other limits than the roomy ones.
func with(t *testing.T, l api.Limits, src string) (api.Outcome, *vm.Machine) {
	t.Helper()
	if l.Fuel == 0 {
		l.Fuel = roomy.Fuel
	}
	if l.Frames == 0 {
		l.Frames = roomy.Frames
	}
	if l.Cells == 0 {
		l.Cells = roomy.Cells
	}
	m := vm.New(l, host())
	return m.Source(src), m
}

// script is a module of functions, of which the first one is the script.
func script(fns ...api.Fn) api.Module { return api.Module{Fns: fns} }

// code is a function with registers for all that it names, and some constants.
func code(consts []api.Value, code ...api.Ins) api.Fn {
	return api.Fn{Regs: 20, Consts: consts, Code: code}
}

func ins(op int, l ...int) api.Ins {
	l = append(l, 0, 0, 0, 0)
	return api.Ins{Op: op, A: l[0], B: l[1], C: l[2], D: l[3]}
}

// P21.2, P21.3: each instruction takes one of the fuel, and each call one more.
func TestFuel(t *testing.T) {
	texts := []api.Value{str("print"), str("TypeError"), num(7)}
	answer := code(nil, ins(api.OpLoad, 0), ins(api.OpReturn, 0))
	call := []api.Ins{ins(api.OpLoad, 1), ins(api.OpList, 2), ins(api.OpCall, 3, 0, 1, 2), ins(api.OpReturn, 3)}
	for _, x := range []struct {
		about string
		m     api.Module
		fuel  int
	}{
		{"two", script(answer), 2},
		{"a jump over one", script(code(nil, ins(api.OpJump, 2), ins(api.OpReturn, 0), ins(api.OpReturn, 0))), 2},
		{"a call", script(code(nil, append([]api.Ins{ins(api.OpClosure, 0, 1)}, call...)...), answer), 8},
		{"a call by the machine's own function", script(code(texts, append([]api.Ins{ins(api.OpGlobal, 0, 0)}, call...)...)), 6},
		{"new", script(code(nil, ins(api.OpClosure, 0, 1), ins(api.OpList, 2), ins(api.OpNew, 3, 0, 2), ins(api.OpReturn, 3)), answer), 7},
		{"new of the machine's own", script(code(texts, ins(api.OpGlobal, 0, 1), ins(api.OpList, 2), ins(api.OpNew, 3, 0, 2), ins(api.OpReturn, 3))), 5},
		{"a throw that is caught", script(api.Fn{Regs: 2, Code: []api.Ins{ins(api.OpThrow, 0), ins(api.OpReturn, 1)}, Tries: []api.Try{{From: 0, To: 1, At: 1, Reg: 1}}}), 2},
		{"a getter", script(code(texts, ins(api.OpObject, 0), ins(api.OpConst, 1, 0), ins(api.OpClosure, 2, 1), ins(api.OpGetter, 0, 1, 2), ins(api.OpGet, 3, 0, 1), ins(api.OpReturn, 3)), answer), 9},
	} {
		for _, fuel := range []int{x.fuel - 1, x.fuel, x.fuel + 1} {
			m := vm.New(api.Limits{Fuel: fuel, Frames: 10, Cells: 1000}, nil)
			if o := m.Run(x.m); (o.End == api.EndNormal) != (fuel >= x.fuel) || o.End != api.EndNormal && o.End != api.EndFuel || m.Spent() != min(fuel, x.fuel) {
				t.Errorf("%s, %d: end %d, spent %d, not %d", x.about, fuel, o.End, m.Spent(), x.fuel)
			}
		}
	}
	for _, fuel := range []int{1, 100, 12345} {
		if o, m := with(t, api.Limits{Fuel: fuel}, "while (1) ;"); o.End != api.EndFuel || o.Value != "" || m.Spent() != fuel {
			t.Errorf("%d: end %d, spent %d", fuel, o.End, m.Spent())
		}
	}
}

// P21.1: limits below 1 count as 1.
func TestLeastLimits(t *testing.T) {
	for _, n := range []int{0, -1, -1 << 63} {
		m := vm.New(api.Limits{Fuel: n, Frames: n, Cells: 1000}, nil)
		if o := m.Source(""); o.End != api.EndFuel || m.Spent() != 1 {
			t.Errorf("%d: end %d, spent %d", n, o.End, m.Spent())
		}
		m = vm.New(api.Limits{Fuel: 1000, Frames: n, Cells: 1000}, nil)
		if o := m.Source("let f = () => 1; f(); let g = () => f(); print(2);"); told(o) != "2" {
			t.Errorf("%d: %s", n, told(o))
		}
		if o := m.Source("let f = () => 1; let g = () => f(); print(3); g();"); told(o) != "2 | 3 limit" {
			t.Errorf("%d: %s", n, told(o))
		}
		m = vm.New(api.Limits{Fuel: 1000, Frames: 10, Cells: n}, nil)
		if o := m.Source(""); o.End != api.EndLimit || m.Heap().Used() > 1 {
			t.Errorf("%d: end %d", n, o.End)
		}
	}
}

// P21.1: of a heap that is too small for a machine's own, and of all that are not.
func TestSmallHeaps(t *testing.T) {
	own := vm.New(roomy, nil).Heap().Used()
	for cells := range own + 3 {
		m := vm.New(api.Limits{Fuel: 1000, Frames: 10, Cells: cells}, nil)
		want := api.EndLimit
		if cells >= own {
			want = api.EndNormal
		}
		if o := m.Source("1;"); o.End != want {
			t.Errorf("%d cells: end %d", cells, o.End)
		}
		if o := m.Source("let let;"); told(o) != "syntax 4" {
			t.Errorf("%d cells: %s", cells, told(o))
		}
	}
}

// P21.2: calls within one another, of all sorts.
func TestFrames(t *testing.T) {
	for _, x := range []struct {
		src  string // ends with a call of n calls within one another
		more int    // and so many more
	}{
		{"let f = n => n > 1 ? f(n - 1) : 1; f(N);", 0},
		{"let f = function (n) { if (n > 1) new f(n - 1); }; f(N);", 0},
		{"let o = { get a() { return n-- > 1 ? this.a : 1; } }, n = N; o.a;", 0},
		{"let o = { set a(v) { if (v > 1) this.a = v - 1; } }; o.a = N;", 0},
		{"let n = N, o = { valueOf() { return n-- > 1 ? o + 1 : 1; } }; o + 1;", 0},
		{"let n = N, o = { toString() { return n-- > 1 ? `${o}` : ''; } }; `${o}`;", 0},
		{"let n = N, o = { [iterator]() { if (n-- > 1) for (let x of o) ; return [].values(); } }; for (let x of o) ;", 1},
		{"let f = n => n > 1 ? f(n - 1) : print('end'); f(N);", 1},
	} {
		for _, n := range []int{1, 2, 50, 400} {
			src := strings.ReplaceAll(x.src, "N", strconv.Itoa(n))
			for _, frames := range []int{n + x.more - 1, n + x.more, n + x.more + 1} {
				m := machine(t, api.Limits{Fuel: 200000, Frames: max(frames, 1), Cells: 20000})
				want := api.EndNormal
				if max(frames, 1) < n+x.more {
					want = api.EndLimit
				}
				if o := m.Source(src); o.End != want {
					t.Errorf("%s with %d: %s", src, frames, told(o))
				}
			}
		}
	}
}

// P21.2: what was left by a throw is no call within another any more.
func TestFramesThrown(t *testing.T) {
	for _, f := range []string{"() => { throw 1; }", "() => (() => null.x)()", "() => { try { return (() => { throw 1; })(); } finally { (() => 1)(); } }", "() => o.a", "() => `${o}`", "() => [...o]", "() => print(o)", "() => new Error(o)", "() => { for (const x of { [iterator]: () => o }) ; }"} {
		m := machine(t, api.Limits{Fuel: 200000, Frames: 8, Cells: 20000})
		src := "let o = { get a() { throw 1; }, toString() { return (() => { throw 1; })(); }, [iterator]() { throw 2; }, next() { throw 3; } }, n = 0; for (let i = 0; i < 300; i++) try { (" + f + ")(); } catch (e) { n++; } print(n);"
		if o := m.Source(src); told(o) != "300" {
			t.Errorf("%s: %s", f, told(o))
		}
	}
}

// P21.2: MaxFrames, however many there may be; that many within one another are no harm, whoever calls.
func TestMaxFrames(t *testing.T) {
	for _, src := range []string{
		"let f = n => n > 1 ? f(n - 1) : 1; f(N);",
		"let o = { get a() { return n-- > 1 ? this.a : 1; } }, n = N; o.a;",
		"let n = N, o = { valueOf() { return n-- > 1 ? -o : 1; } }; -o;",
		"let n = N, o = { next() { if (n-- > 1) for (let x of o) ; return { done: true }; }, [iterator]: [][iterator] }; o[iterator] = iter; for (let x of o) ; function iter() { return o; }",
	} {
		for n, want := range map[int]int{api.MaxFrames - 1: api.EndNormal, api.MaxFrames: api.EndNormal, api.MaxFrames + 1: api.EndLimit} {
			m := machine(t, api.Limits{Fuel: 1 << 40, Frames: 1 << 40, Cells: 200000})
			if o := m.Source(strings.ReplaceAll(src, "N", strconv.Itoa(n))); o.End != want {
				t.Errorf("%s: %d: %s", src, n, told(o))
			}
		}
	}
	m := machine(t, api.Limits{Fuel: 1 << 40, Frames: 1 << 40, Cells: 200000})
	if o := m.Source("let n = 9990, o = { get a() { if (n-- > 1) return this.a; throw 'deep'; } }; try { o.a; } catch (e) { print(e, n); }"); told(o) != "deep 0" {
		t.Error(told(o))
	}
}

// P21.2: MaxNative: calls by the library within one another.
func TestMaxNative(t *testing.T) {
	for n, want := range map[int]int{api.MaxNative - 1: api.EndNormal, api.MaxNative: api.EndNormal, api.MaxNative + 1: api.EndLimit} {
		for _, x := range []struct {
			src string
			f   vm.Native
		}{
			{"let f = n => n > 0 ? call(() => f(n - 1)) : 'end'; f(N);", func(m *vm.Machine, _ api.Value, args []api.Value) (api.Value, bool) {
				return m.Call(args[0], api.Value{}, nil)
			}},
			{"let F = function (n) { if (n > 0) call(F, n - 1); }; new F(N);", func(m *vm.Machine, _ api.Value, args []api.Value) (api.Value, bool) {
				return m.Build(args[0], args[1:])
			}},
			{"let n = N, o = { get a() { if (n-- > 0) call(o); } }; o.a;", func(m *vm.Machine, _ api.Value, args []api.Value) (api.Value, bool) {
				return m.Get(args[0], key("a"))
			}},
			{"let n = N, o = { toString() { if (n-- > 0) call(o); return ''; } }; o + '';", func(m *vm.Machine, _ api.Value, args []api.Value) (api.Value, bool) {
				s, ok := m.Text(args[0])
				return api.Value{Kind: api.Text, Str: s}, ok
			}},
			{"let n = N, o = { toString() { if (n-- > 0) print(o); return ''; } }; o + '';", nil},
			{"let n = N, o = { length: 1, get 0() { if (n-- > 1) for (const x of o) ; return 1; }, [iterator]: [].values }; for (const x of o) ;", nil},
			{"let n = N, o = { length: 1, get 0() { if (n-- > 1) o[iterator]().next(); return 1; }, [iterator]: [].values }; o[iterator]().next();", nil},
			{"let n = N, o = { length: 1, get 0() { if (n-- > 1) [...o]; return 1; }, [iterator]: [].values }; [...o];", nil},
		} {
			m := machine(t, api.Limits{Fuel: 1 << 40, Frames: 1 << 40, Cells: 200000})
			f, _ := m.Native("call", 1, x.f)
			m.Global("call", f)
			if o := m.Source(strings.ReplaceAll(x.src, "N", strconv.Itoa(n))); o.End != want {
				t.Errorf("%s: %d: %s", x.src, n, told(o))
			}
		}
	}
}

// P21.2: texts of MaxStr units, and of more.
func TestMaxStr(t *testing.T) {
	const grown = "let s = 'a'; for (let i = 0; i < 16; i++) s += s; "
	for src, want := range map[string]string{
		grown + "print(s.length);":                                    "65536",
		grown + "try { s + 'a'; } catch (e) { } finally { print(); }": "limit",
		grown + "s + 1;":                              "limit",
		grown + "`${s}b`;":                            "limit",
		grown + "`${s}${''}`; print('fine');":         "fine",
		grown + "s += ''; print(s.length);":           "65536",
		grown + "let o = {}; o[s] = 1; print(o[s]);":  "1",
		grown + "print(s, s); throw 'print is none';": strings.Repeat("a", 65536) + " " + strings.Repeat("a", 65536) + ` throws "print is none"`,
		"let s = 'ab'; for (;;) s += s;":              "limit",
		"print('" + strings.Repeat("\\u{1F600}", 20000) + "'.length, '" + strings.Repeat("x", 70000) + "'.length);": "40000 70000",
	} {
		if o, _ := with(t, roomy, src); strings.TrimSpace(told(o)) != want {
			t.Errorf("%.80s: %.80s, not %.80s", src, told(o), want)
		}
	}
}

// P21.2: MaxArgs arguments, and more.
func TestMaxArgs(t *testing.T) {
	const args = "let a = []; for (let i = 0; i < N; i++) a[i] = 1; "
	for _, call := range []string{"((...b) => print(b.length))(...a);", "(function () { print(10000); })(...a);", "new (function (...b) { print(b.length); })(...a);", "Error(...a); print(10000);", "new Error(...a); print(10000);", "((...b) => print(b.length))(1, ...b, 1);"} {
		for n, want := range map[int]string{api.MaxArgs: "10000", api.MaxArgs + 1: "limit"} {
			src := strings.ReplaceAll(args, "N", strconv.Itoa(n)) + "let b = []; for (let i = 2; i < a.length; i++) b[b.length] = i; try { " + call + " } finally { }"
			if o, _ := with(t, api.Limits{Fuel: 10000000, Cells: 10000000}, src); told(o) != want {
				t.Errorf("%d: %s: %s", n, call, told(o))
			}
		}
	}
	for n, want := range map[int]bool{api.MaxArgs: true, api.MaxArgs + 1: false} {
		for about, do := range map[string]func(*vm.Machine, api.Value) bool{
			"Call": func(m *vm.Machine, f api.Value) bool {
				_, ok := m.Call(f, api.Value{}, make([]api.Value, n))
				return ok
			},
			"Build": func(m *vm.Machine, f api.Value) bool {
				_, ok := m.Build(f, make([]api.Value, n))
				return ok
			},
		} {
			m := vm.New(roomy, nil)
			f, _ := m.Maker("f", 0, nil, func(*vm.Machine, api.Value, []api.Value) (api.Value, bool) { return api.Value{}, true })
			if ok := do(m, f); ok != want || (m.Source("").End == api.EndLimit) == want {
				t.Errorf("%s with %d: %v", about, n, ok)
			}
		}
	}
	if o, _ := with(t, api.Limits{Cells: 50000}, "[...{ [x]: 1 }];"); told(o) != "throws ReferenceError" {
		t.Error(told(o))
	}
}

// P21.2: what the limits stop, and the fuel, is not caught, runs no finally and closes no iterator.
func TestNotCaught(t *testing.T) {
	const guarded = "let it = { [iterator]() { return this; }, next() { return { done: false }; }, return() { print('closed'); } }; " +
		"try { for (const x of it) { try { S } catch (e) { print('caught'); } finally { print('finally'); } } } finally { print('finally'); }"
	for src, want := range map[string]string{
		"for (const x of { [iterator]() { return this; }, next: it.next, return() { for (;;) ; } }) throw 1;":            "fuel",
		"for (const x of { [iterator]() { return this; }, next: it.next, return() { return this.return(); } }) throw 1;": "limit",
		"let f = () => f(); f();":                                       "limit",
		"for (;;) ;":                                                    "fuel",
		"let s = 'ab'; for (;;) s += s;":                                "limit",
		"let o = []; for (;;) o = [o];":                                 "limit",
		"let f; for (;;) f = () => 1;":                                  "limit",
		"for (let i = 0; ; i++) it[i] = 1;":                             "limit",
		"for (const y of { [iterator]: () => ({ next: () => it }) }) ;": "fuel",
		"[...{ [iterator]: () => ({ next: () => it }) }];":              "limit",
		"Error(...{ [iterator]: () => ({ next: () => it }) });":         "limit",
		"let f = () => { try { f(); } finally { f(); } }; f();":         "limit",
	} {
		m := machine(t, api.Limits{Fuel: 500000, Frames: 100, Cells: 5000})
		o := m.Source(strings.ReplaceAll(guarded, "S", src))
		if told(o) != want {
			t.Errorf("%s: %s", src, told(o))
		}
	}
}

// P21.2: once a machine was stopped each further module ends so at once; what was thrown stops nothing, nor a module that check refuses.
func TestStopped(t *testing.T) {
	stuck := script(code(nil, ins(api.OpPeek, 0, 1), ins(api.OpReturn, 0)))
	for _, x := range []struct {
		about string
		stop  func(m *vm.Machine) api.Outcome
		end   int
	}{
		{"fuel", func(m *vm.Machine) api.Outcome { return m.Source("for (;;) ;") }, api.EndFuel},
		{"limit", func(m *vm.Machine) api.Outcome { return m.Source("let f = () => f(); f();") }, api.EndLimit},
		{"stuck", func(m *vm.Machine) api.Outcome { return m.Run(stuck) }, api.EndStuck},
		{"Stop", func(m *vm.Machine) api.Outcome { m.Stop(); return m.Source("print('no');") }, api.EndLimit},
		{"Charge", func(m *vm.Machine) api.Outcome { m.Charge(1 << 40); return m.Source("print('no');") }, api.EndFuel},
	} {
		m := vm.New(roomy, nil)
		m.Source("print('before');")
		used := m.Heap().Used()
		if o := x.stop(m); o.End != x.end || o.Value != "" || !slices.Equal(o.Trace, []string{"before"}) {
			t.Errorf("%s: %s", x.about, told(o))
		}
		spent := m.Spent()
		for range 2 {
			if o := m.Source("print('behind'); 1;"); o.End != x.end || o.Value != "" || !slices.Equal(o.Trace, []string{"before"}) || m.Spent() != spent {
				t.Errorf("%s, behind: %s", x.about, told(o))
			}
			if o := m.Source("let"); o.End != api.EndSyntax || o.Value != "3" {
				t.Errorf("%s, behind, no script: %s", x.about, told(o))
			}
			m.Stop()
			m.Charge(1)
			if _, ok := m.Call(api.Value{}, api.Value{}, nil); ok {
				t.Errorf("%s: called", x.about)
			}
		}
		if m.Heap().Used() < used {
			t.Errorf("%s: cells were given back", x.about)
		}
	}
	m := vm.New(roomy, nil)
	for _, x := range []string{"throw 1;", "let let;", "null.x;", strings.Repeat("(", 200)} {
		if o := m.Source(x); o.End == api.EndNormal {
			t.Errorf("%s: %s", x, told(o))
		}
	}
	if o := m.Run(api.Module{}); o.End != api.EndStuck || o.Value != "" || o.Trace != nil {
		t.Errorf("no module: %s", told(o))
	}
	if o := m.Source("print('goes on'); 'x';"); told(o) != "goes on" || o.Value != `"x"` {
		t.Error(told(o))
	}
}
