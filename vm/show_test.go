package vm_test

import (
	"math"
	"testing"

	"lintel/api"
	"lintel/vm"
)

// P21.13: values as an outcome has them.
func TestShow(t *testing.T) {
	m := machine(t, roomy)
	k, _ := m.Symbol(utf16("a\u20ac"))
	for _, x := range []struct {
		v    api.Value
		want string
	}{
		{api.Value{}, "undefined"}, {null(), "null"}, {yes(true), "true"}, {yes(false), "false"}, {num(1.5), "1.5"}, {num(math.NaN()), "NaN"}, {num(math.Copysign(0, -1)), "0"}, {num(1e21), "1e+21"},
		{str("a\"\u20ac\n"), `"a\"\u20ac\u000a"`}, {str(""), `""`}, {symbolIterator, "Symbol(Symbol.iterator)"}, {api.Value{Kind: api.Symbol, Ref: k.Sym}, "Symbol(a\u20ac)"}, {api.Value{Kind: api.Symbol, Ref: 99}, "Symbol()"},
		{api.Value{Kind: 99}, "undefined"}, {obj(-1), "[object]"}, {obj(1 << 40), "[object]"}, {obj(m.Proto(1)), "[object]"}, {obj(m.Proto(2)), "[object]"}, {obj(m.Proto(3)), "[object]"},
	} {
		if got := m.Show(x.v); got != x.want {
			t.Errorf("%+v: %s, not %s", x.v, got, x.want)
		}
	}
	for src, want := range map[string]string{
		"function f() {} f": "[function f]", "() => 1": "[function ]", "(function () {})": "[function ]", "print": "[function print]", "[].values": "[function values]", "''[iterator]": "[function [Symbol.iterator]]", "TypeError": "[function TypeError]",
		"delete print.name; print": "[function ]", "let f = () => 1; delete f.name; f.name = 5; f": "[function ]", "let f = () => 1; delete f.name; f.name = '\\u20ac'; f": "[function \u20ac]",
		"[]": "[array 0]", "let a = [1]; a[9] = 1; a": "[array 10]", "({ length: 5 })": "[object]", "[].values()": "[object]", "Error.prototype": "[object]", "new (function () {})": "[object]",
		"Error()": "Error", "RangeError('a')": "RangeError: a", "Error('a\\u20ac\\ud800')": "Error: a\u20ac\uFFFD", "TypeError('')": "TypeError",
		"let e = Error('a'); e.name = 'mine'; e": "mine: a", "let e = Error('a'); e.name = 5; e": "Error: a", "let e = TypeError('a'); e.message = 5; e": "TypeError", "let e = TypeError(); e.name = ''; e": "",
		"let e = TypeError(); e.name = ''; e.message = 'm'; e": ": m", "TypeError.prototype.name = 7; TypeError('x')": "Error: x", "Error.prototype.message = 'all'; RangeError()": "RangeError", "delete RangeError.prototype.message; Error.prototype.message = 'all'; RangeError()": "RangeError: all",
		"delete TypeError.prototype.name; TypeError('a')": "Error: a", "let e = Error(); delete Error.prototype.name; e": "Error",
		"'x'": `"x"`, "iterator": "Symbol(Symbol.iterator)",
	} {
		if o := machine(t, roomy).Source(src); o.End != api.EndNormal || o.Value != want {
			t.Errorf("%s: %d, %s, not %s", src, o.End, o.Value, want)
		}
	}
	for src, want := range map[string]string{"throw 1;": "1", "throw 'x';": `"x"`, "throw [1];": "[array 1]", "throw () => 1;": "[function ]", "throw Error('a');": "Error: a", "throw undefined;": "undefined", "null.x;": "TypeError", "x;": "ReferenceError", "[].length = -1;": "RangeError"} {
		if o := machine(t, roomy).Source(src); o.End != api.EndThrow || o.Value != want {
			t.Errorf("%s: %d, %s, not %s", src, o.End, o.Value, want)
		}
	}
}

// P21.13: no getter is called.
func TestShowCallsNothing(t *testing.T) {
	m := machine(t, roomy)
	calls := 0
	get, _ := m.Native("get", 0, func(*vm.Machine, api.Value, []api.Value) (api.Value, bool) {
		calls++
		return str("got"), true
	})
	d := api.Desc{Has: api.HasGet | api.HasConfigurable, Prop: api.Prop{Get: get, Flags: c}}
	e, f := answer(t, m, "Error('a')"), answer(t, m, "() => 1")
	for _, x := range []struct {
		v    api.Value
		k    string
		want string
	}{{e, "message", "Error"}, {e, "name", "Error"}, {f, "name", "[function ]"}} {
		if is, ok := m.Define(x.v, key(x.k), d); !is || !ok || m.Show(x.v) != x.want || calls > 0 {
			t.Errorf("%s: %s, %d calls", x.k, m.Show(x.v), calls)
		}
	}
}
