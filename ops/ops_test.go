package ops_test

import (
	"math"
	"strings"
	"testing"
	"unsafe"

	"lintel/api"
	"lintel/conv"
	"lintel/ops"
	"lintel/units"
)

var (
	inf    = math.Inf(1)
	nan    = math.NaN()
	minus0 = math.Copysign(0, -1)
)

// of makes a text of UTF-8 that is known to be good.
func of(s string) api.Str {
	u, _, _ := units.Of(s)
	return u
}

func text(s string) api.Value { return api.Value{Kind: api.Text, Str: of(s)} }

func number(x float64) api.Value { return api.Value{Kind: api.Number, Num: x} }

func symbol(n int) api.Value { return api.Value{Kind: api.Symbol, Ref: n} }

func reference(n int) api.Value { return api.Value{Kind: api.Object, Ref: n} }

// boolean is a Bool, by its Num.
func boolean(x float64) api.Value { return api.Value{Kind: api.Bool, Num: x} }

func null() api.Value { return api.Value{Kind: api.Null} }

func void() api.Value { return api.Value{} }

func truth(is bool) api.Value {
	if is {
		return boolean(1)
	}
	return boolean(0)
}

// noisy is v with other fields than its kind names, which don't count.
func noisy(v api.Value) api.Value {
	if v.Kind != api.Bool && v.Kind != api.Number {
		v.Num = 1
	}
	if v.Kind != api.Text {
		v.Str = of("7x")
	}
	if v.Kind != api.Symbol && v.Kind != api.Object {
		v.Ref = 3
	}
	return v
}

// noKinds are kinds that are none.
var noKinds = []int{-1, 7, -6, 1 << 32, math.MinInt, math.MaxInt}

// alike says whether two values are one, NaN among numbers.
func alike(v, w api.Value) bool {
	if v.Kind == api.Number && w.Kind == api.Number && v.Num != v.Num && w.Num != w.Num {
		v.Num, w.Num = 0, 0
	}
	return v == w && math.Signbit(v.Num) == math.Signbit(w.Num)
}

// binary is a row of a table: what a binary operator answers.
type binary struct {
	op   string
	a, b api.Value
	want api.Value
	e    api.Errno
}

// hold asks for the rows, and for them again with fields that don't count.
func hold(t *testing.T, rows []binary) {
	t.Helper()
	for _, r := range rows {
		for _, p := range [][2]api.Value{{r.a, r.b}, {noisy(r.a), r.b}, {r.a, noisy(r.b)}, {noisy(r.a), noisy(r.b)}} {
			v, e := ops.Binary(r.op, p[0], p[1])
			if !alike(v, r.want) || e != r.e || e == api.OK && !conv.Good(v) {
				t.Errorf("%+v %s %+v: %+v, %d, not %+v, %d", p[0], r.op, p[1], v, e, r.want, r.e)
			}
		}
	}
}

// sum is the row of numbers that give a number.
func sum(op string, a, b, want float64) binary {
	return binary{op, number(a), number(b), number(want), api.OK}
}

// told is the row of what is so or isn't.
func told(op string, a, b api.Value, want bool) binary {
	return binary{op, a, b, truth(want), api.OK}
}

// P19.1
func TestUnary(t *testing.T) {
	for _, c := range []struct {
		op   string
		v    api.Value
		want api.Value
		e    api.Errno
	}{
		{"!", void(), boolean(1), api.OK},
		{"!", null(), boolean(1), api.OK},
		{"!", boolean(0), boolean(1), api.OK},
		{"!", boolean(1), boolean(0), api.OK},
		{"!", boolean(2), boolean(1), api.OK},
		{"!", number(0), boolean(1), api.OK},
		{"!", number(minus0), boolean(1), api.OK},
		{"!", number(nan), boolean(1), api.OK},
		{"!", number(-1), boolean(0), api.OK},
		{"!", text(""), boolean(1), api.OK},
		{"!", text("0"), boolean(0), api.OK},
		{"!", symbol(1), boolean(0), api.OK},
		{"!", reference(1), boolean(0), api.OK},
		{"typeof", void(), text("undefined"), api.OK},
		{"typeof", null(), text("object"), api.OK},
		{"typeof", boolean(1), text("boolean"), api.OK},
		{"typeof", number(nan), text("number"), api.OK},
		{"typeof", text(""), text("string"), api.OK},
		{"typeof", symbol(1), text("symbol"), api.OK},
		{"typeof", reference(1), text("object"), api.OK},
		{"void", void(), void(), api.OK},
		{"void", number(1), void(), api.OK},
		{"void", text("a"), void(), api.OK},
		{"void", symbol(1), void(), api.OK},
		{"void", reference(1), void(), api.OK},
		{"+", void(), number(nan), api.OK},
		{"+", null(), number(0), api.OK},
		{"+", boolean(1), number(1), api.OK},
		{"+", number(1.5), number(1.5), api.OK},
		{"+", number(minus0), number(minus0), api.OK},
		{"+", text(" 12 "), number(12), api.OK},
		{"+", text("0x1F"), number(31), api.OK},
		{"+", text("-0"), number(minus0), api.OK},
		{"+", text("a"), number(nan), api.OK},
		{"+", symbol(1), void(), api.ErrType},
		{"+", symbol(0), void(), api.ErrType},
		{"+", reference(1), void(), api.ErrPrim},
		{"+", reference(-1), void(), api.ErrPrim},
		{"-", void(), number(nan), api.OK},
		{"-", null(), number(minus0), api.OK},
		{"-", boolean(0), number(minus0), api.OK},
		{"-", boolean(1), number(-1), api.OK},
		{"-", number(0), number(minus0), api.OK},
		{"-", number(minus0), number(0), api.OK},
		{"-", number(-1.5), number(1.5), api.OK},
		{"-", number(inf), number(-inf), api.OK},
		{"-", number(nan), number(nan), api.OK},
		{"-", text(""), number(minus0), api.OK},
		{"-", text("-7"), number(7), api.OK},
		{"-", symbol(1), void(), api.ErrType},
		{"-", reference(1), void(), api.ErrPrim},
		{"~", void(), number(-1), api.OK},
		{"~", null(), number(-1), api.OK},
		{"~", boolean(1), number(-2), api.OK},
		{"~", number(minus0), number(-1), api.OK},
		{"~", number(-1), number(0), api.OK},
		{"~", number(5.9), number(-6), api.OK},
		{"~", number(-5.9), number(4), api.OK},
		{"~", number(2147483647), number(-2147483648), api.OK},
		{"~", number(2147483648), number(2147483647), api.OK},
		{"~", number(4294967295), number(0), api.OK},
		{"~", number(4294967296), number(-1), api.OK},
		{"~", number(inf), number(-1), api.OK},
		{"~", number(nan), number(-1), api.OK},
		{"~", text("3"), number(-4), api.OK},
		{"~", symbol(1), void(), api.ErrType},
		{"~", reference(1), void(), api.ErrPrim},
	} {
		for _, v := range []api.Value{c.v, noisy(c.v)} {
			got, e := ops.Unary(c.op, v)
			if !alike(got, c.want) || e != c.e || e == api.OK && !conv.Good(got) {
				t.Errorf("%s %+v: %+v, %d, not %+v, %d", c.op, v, got, e, c.want, c.e)
			}
		}
	}
}

// P19.1: no operator is ErrOp, of whichever value.
func TestUnaryNone(t *testing.T) {
	for _, op := range []string{"", " ", "delete", "!!", "! ", " !", "++", "--", "*", "==", "&", "typeOf", "type", "typeof ", "void 0", "Void", "in", "\x00", "\xff", "−"} {
		for _, v := range []api.Value{void(), number(1), text("1"), symbol(1), reference(1), {Kind: 9}} {
			if got, e := ops.Unary(op, v); got != void() || e != api.ErrOp {
				t.Errorf("%q %+v: %+v, %d", op, v, got, e)
			}
		}
	}
}

// P19.2: the same, and loosely so.
func TestEqual(t *testing.T) {
	rows := []binary{
		told("===", void(), void(), true), told("===", void(), null(), false), told("===", null(), boolean(0), false),
		told("===", boolean(1), boolean(1), true), told("===", boolean(1), number(1), false), told("===", boolean(3), boolean(0), true),
		told("===", number(0), number(minus0), true), told("===", number(nan), number(nan), false), told("===", number(1), text("1"), false),
		told("===", text("a"), text("a"), true), told("===", text("a"), text("A"), false), told("===", text("a"), text("ab"), false),
		told("===", symbol(1), symbol(1), true), told("===", symbol(1), symbol(2), false), told("===", symbol(1), reference(1), false),
		told("===", reference(2), reference(2), true), told("===", reference(1), reference(2), false), told("===", reference(1), text("a"), false),
		told("==", void(), null(), true), told("==", void(), number(0), false), told("==", null(), number(0), false), told("==", null(), reference(1), false),
		told("==", number(1), text("1.0"), true), told("==", text(""), number(minus0), true), told("==", text("a"), number(nan), false),
		told("==", boolean(1), text("1"), true), told("==", boolean(1), text("true"), false), told("==", boolean(0), null(), false),
		told("==", text("1"), text("1.0"), false), told("==", symbol(1), symbol(1), true), told("==", symbol(1), text("a"), false),
		told("==", symbol(1), boolean(1), false), told("==", reference(1), reference(1), true), told("==", reference(1), reference(2), false),
	}
	for _, r := range rows {
		// The sides don't matter, and the opposite is so just if the thing isn't.
		is := r.want.Num == 1
		rows = append(rows, told(r.op, r.b, r.a, is), told("!"+r.op[1:], r.a, r.b, !is), told("!"+r.op[1:], r.b, r.a, !is))
	}
	for _, v := range []api.Value{boolean(0), boolean(1), number(1), number(nan), text(""), text("a"), symbol(1), symbol(0)} {
		for _, op := range []string{"==", "!="} {
			rows = append(rows, binary{op, reference(1), v, void(), api.ErrPrim}, binary{op, v, reference(1), void(), api.ErrPrim})
		}
	}
	hold(t, rows)
}

// P19.2: sums of texts.
func TestJoin(t *testing.T) {
	var rows []binary
	for _, c := range []struct {
		a, b api.Value
		want string
	}{
		{text("1"), number(2), "12"}, {number(1), text("2"), "12"}, {text("a"), text("b"), "ab"}, {text(""), text(""), ""},
		{text(""), void(), "undefined"}, {null(), text("!"), "null!"}, {text("is "), boolean(1), "is true"}, {boolean(0), text(""), "false"},
		{boolean(7), text(""), "false"}, {text("x"), number(minus0), "x0"}, {text(""), number(nan), "NaN"}, {number(-inf), text(""), "-Infinity"},
		{number(1e21), text(""), "1e+21"}, {text(""), number(0.1), "0.1"}, {text("\u20ac"), text("\U0001f600"), "\u20ac\U0001f600"},
		{text(" 1 "), text(" 2 "), " 1  2 "},
	} {
		rows = append(rows, binary{"+", c.a, c.b, text(c.want), api.OK})
	}
	for _, s := range []string{"", "a", "1"} {
		for _, n := range []int{-1, 0, 1, api.MaxSymbols} {
			rows = append(rows, binary{"+", text(s), symbol(n), void(), api.ErrType}, binary{"+", symbol(n), text(s), void(), api.ErrType})
			rows = append(rows, binary{"+", text(s), reference(n), void(), api.ErrPrim}, binary{"+", reference(n), text(s), void(), api.ErrPrim})
		}
	}
	hold(t, rows)
}

// P19.2: halves of a pair that stand in two texts, and odd bytes, which don't count.
func TestJoinUnits(t *testing.T) {
	for _, c := range []struct{ a, b, want api.Str }{
		{"\xd8\x3d", "\xde\x00", "\xd8\x3d\xde\x00"},
		{"\xde\x00", "\xd8\x3d", "\xde\x00\xd8\x3d"},
		{"\x00ax", "\x00b", "\x00a\x00b"},
		{"\x00a", "\x00bx", "\x00a\x00b"},
		{"x", "y", ""},
		{"\x00ax", "", "\x00a"},
	} {
		v, e := ops.Binary("+", api.Value{Kind: api.Text, Str: c.a}, api.Value{Kind: api.Text, Str: c.b})
		if v != (api.Value{Kind: api.Text, Str: c.want}) || e != api.OK {
			t.Errorf("%x + %x: %+v, %d", c.a, c.b, v, e)
		}
	}
}

// P19.2: texts of as many units as there may be, and of more; a symbol is looked at ahead of that.
func TestTooBig(t *testing.T) {
	long := func(n int) api.Value { return text(strings.Repeat("x", n)) }
	half, most, over := long(api.MaxStr/2), long(api.MaxStr), long(api.MaxStr+1)
	rest := long(api.MaxStr - 9)
	odd := api.Value{Kind: api.Text, Str: most.Str + "x"}
	none := void()
	for _, r := range []binary{
		{"+", half, half, most, api.OK}, {"+", most, text(""), most, api.OK}, {"+", text(""), most, most, api.OK}, {"+", odd, text(""), most, api.OK},
		{"+", rest, none, api.Value{Kind: api.Text, Str: rest.Str + of("undefined")}, api.OK}, {"+", none, rest, api.Value{Kind: api.Text, Str: of("undefined") + rest.Str}, api.OK},
		{"+", most, text("x"), none, api.ErrTooBig}, {"+", text("x"), most, none, api.ErrTooBig}, {"+", most, most, none, api.ErrTooBig},
		{"+", over, text(""), none, api.ErrTooBig}, {"+", text(""), over, none, api.ErrTooBig}, {"+", number(0), most, none, api.ErrTooBig},
		{"+", long(api.MaxStr - 8), none, none, api.ErrTooBig}, {"+", none, long(api.MaxStr - 8), none, api.ErrTooBig},
		{"+", over, symbol(1), none, api.ErrType}, {"+", symbol(1), over, none, api.ErrType},
		{"+", over, reference(1), none, api.ErrPrim}, {"+", reference(1), over, none, api.ErrPrim},
		{"===", over, over, boolean(1), api.OK}, {"<", most, over, boolean(1), api.OK}, {"-", over, over, number(nan), api.OK},
	} {
		v, e := ops.Binary(r.op, r.a, r.b)
		if !alike(v, r.want) || e != r.e {
			t.Errorf("%d units %s %d units: %d units, %d", units.Len(r.a.Str), r.op, units.Len(r.b.Str), units.Len(v.Str), e)
		}
	}
}

// P19.2: numbers, as ECMA-262 counts with them.
func TestSums(t *testing.T) {
	const huge, small = math.MaxFloat64, math.SmallestNonzeroFloat64
	hold(t, []binary{
		sum("+", 1, 2, 3), sum("+", 0.1, 0.2, 0.30000000000000004), sum("+", 0, minus0, 0), sum("+", minus0, minus0, minus0), sum("+", 1, -1, 0),
		sum("+", inf, -inf, nan), sum("+", inf, 1, inf), sum("+", huge, huge, inf), sum("+", nan, 1, nan), sum("+", 9007199254740992, 1, 9007199254740992),
		sum("-", 3, 1, 2), sum("-", 0, 0, 0), sum("-", minus0, 0, minus0), sum("-", 0, minus0, 0), sum("-", inf, inf, nan), sum("-", -huge, huge, -inf),
		sum("*", 3, 4, 12), sum("*", 0, -1, minus0), sum("*", minus0, -1, 0), sum("*", 0, inf, nan), sum("*", small, 0.5, 0), sum("*", huge, -2, -inf),
		sum("*", 0.1, 3, 0.30000000000000004), sum("*", 134217729, 134217729, 18014398777917440),
		sum("/", 1, 3, 0.3333333333333333), sum("/", 1, 0, inf), sum("/", 1, minus0, -inf), sum("/", 0, 0, nan), sum("/", -1, inf, minus0), sum("/", inf, inf, nan),
		sum("/", small, 2, 0), sum("/", minus0, 5, minus0),
		sum("%", 7, -3, 1), sum("%", -7, 3, -1), sum("%", -6, 3, minus0), sum("%", 5.5, 2, 1.5), sum("%", 1, 0, nan), sum("%", 1, inf, 1), sum("%", inf, 1, nan),
		sum("**", 2, 5, 32), sum("**", 2, -1, 0.5), sum("**", nan, 0, 1), sum("**", 0, 0, 1), sum("**", minus0, 3, minus0), sum("**", 1, inf, nan), sum("**", 2, 0.5, math.Sqrt2),
		sum("<<", 1, 4, 16), sum("<<", 1, 31, -2147483648), sum("<<", 1, 32, 1), sum("<<", 1, -1, -2147483648), sum("<<", 4294967297, 1, 2), sum("<<", nan, 3, 0),
		sum(">>", -8, 1, -4), sum(">>", -1, 31, -1), sum(">>", 2147483648, 4, -134217728), sum(">>", 5.9, 0, 5), sum(">>", -5.9, 0, -5),
		sum(">>>", -1, 0, 4294967295), sum(">>>", -1, 30, 3), sum(">>>", 5, 33, 2), sum(">>>", inf, 0, 0),
		sum("&", 12, 10, 8), sum("&", -1, 4294967295, -1), sum("&", 1.9, 3.9, 1), sum("&", nan, -1, 0), sum("&", 2147483648, -1, -2147483648),
		sum("|", 12, 10, 14), sum("|", minus0, minus0, 0), sum("|", 4294967296.5, 0, 0), sum("|", -1.5, 0, -1),
		sum("^", 12, 10, 6), sum("^", -1, 1, -2), sum("^", inf, 5, 5), sum("^", 2147483648, 0, -2147483648),
	})
}

// computing are the operators of which both sides become numbers, unless texts are joined or compared.
var computing = strings.Fields("+ - * / % ** << >> >>> & | ^ < > <= >=")

// P19.2: what is no number becomes one, or can't.
func TestNumbers(t *testing.T) {
	hold(t, []binary{
		{"-", text("3"), number(1), number(2), api.OK}, {"*", text("3"), text("4"), number(12), api.OK}, {"-", void(), number(1), number(nan), api.OK},
		{"+", null(), number(5), number(5), api.OK}, {"+", boolean(1), boolean(1), number(2), api.OK}, {"+", boolean(9), null(), number(0), api.OK}, {"+", void(), null(), number(nan), api.OK},
		{"/", text("-0"), number(1), number(minus0), api.OK}, {"%", text("7"), boolean(1), number(0), api.OK}, {"**", text("2"), text("3"), number(8), api.OK},
		{"<<", boolean(1), text("3"), number(8), api.OK}, {">>", text("-9"), null(), number(-9), api.OK}, {">>>", text("-1"), void(), number(4294967295), api.OK},
		{"&", text("7"), boolean(1), number(1), api.OK}, {"|", void(), null(), number(0), api.OK}, {"^", text("0x5"), boolean(1), number(4), api.OK},
	})
	for _, op := range computing {
		var rows []binary
		for _, v := range []api.Value{void(), null(), boolean(1), number(1), number(nan), symbol(1), symbol(-1)} {
			rows = append(rows, binary{op, symbol(1), v, void(), api.ErrType}, binary{op, v, symbol(1), void(), api.ErrType})
			rows = append(rows, binary{op, reference(1), v, void(), api.ErrPrim}, binary{op, v, reference(1), void(), api.ErrPrim})
		}
		rows = append(rows, binary{op, text("a"), symbol(1), void(), api.ErrType}, binary{op, symbol(0), text("1"), void(), api.ErrType})
		rows = append(rows, binary{op, text("a"), reference(1), void(), api.ErrPrim}, binary{op, reference(0), reference(1), void(), api.ErrPrim})
		hold(t, rows)
	}
}

// P19.2: what is below what.
func TestLess(t *testing.T) {
	for _, c := range []struct {
		a, b          api.Value
		below, beyond bool // neither: they are as great
	}{
		{number(1), number(2), true, false}, {number(2), number(1), false, true}, {number(1), number(1), false, false}, {number(0), number(minus0), false, false},
		{number(-inf), number(inf), true, false}, {number(inf), number(inf), false, false}, {number(math.SmallestNonzeroFloat64), number(0), false, true},
		{text("10"), text("9"), true, false}, {text("10"), number(9), false, true}, {text(""), text("a"), true, false}, {text(""), text(""), false, false},
		{text("a"), text("A"), false, true}, {text("ab"), text("a"), false, true}, {text("\uff00"), text("\U0001f600"), false, true}, {text("\xff"), text("\u0100"), true, false},
		{null(), number(1), true, false}, {null(), number(0), false, false}, {boolean(1), boolean(0), false, true}, {text(" 2 "), boolean(1), false, true}, {text(""), null(), false, false},
	} {
		hold(t, []binary{
			told("<", c.a, c.b, c.below), told(">", c.a, c.b, c.beyond), told("<=", c.a, c.b, !c.beyond), told(">=", c.a, c.b, !c.below),
			told("<", c.b, c.a, c.beyond), told(">", c.b, c.a, c.below), told("<=", c.b, c.a, !c.below), told(">=", c.b, c.a, !c.beyond),
		})
	}
	for _, v := range []api.Value{number(nan), void(), text("a"), number(math.Float64frombits(0xFFF8000000000001))} {
		for _, w := range []api.Value{number(nan), void(), number(0), null(), boolean(1), number(inf)} {
			for _, op := range []string{"<", ">", "<=", ">="} {
				hold(t, []binary{told(op, v, w, false), told(op, w, v, false)})
			}
		}
	}
}

// P19.2: no operator is ErrOp, ahead of all else.
func TestBinaryNone(t *testing.T) {
	values := []api.Value{void(), number(1), text("1"), symbol(1), reference(1), {Kind: 9}}
	for _, op := range []string{"", " ", "in", "instanceof", "!", "~", "typeof", "void", "delete", "=", "+=", "&&", "||", "??", ",", "++", "====", "+ ", " +", "<<<", ">>>>", "***", "=<", "<>", "In", "\x00", "\xff", "×"} {
		for _, v := range values {
			for _, w := range values {
				if got, e := ops.Binary(op, v, w); got != void() || e != api.ErrOp {
					t.Errorf("%+v %q %+v: %+v, %d", v, op, w, got, e)
				}
			}
		}
	}
}

// P19.1, P19.2: a kind that is none is undefined's.
func TestNoKinds(t *testing.T) {
	for _, k := range noKinds {
		v := api.Value{Kind: k}
		hold(t, []binary{
			told("===", v, void(), true), told("==", v, null(), true), told("!=", v, number(0), true), told("<", v, number(1), false),
			{"+", v, text(""), text("undefined"), api.OK}, {"+", v, number(1), number(nan), api.OK}, {"|", v, number(1), number(1), api.OK},
		})
		if kind, e := ops.Unary("typeof", v); kind != text("undefined") || e != api.OK {
			t.Errorf("typeof of kind %d: %+v, %d", k, kind, e)
		}
		if x, e := ops.Unary("~", v); x != number(-1) || e != api.OK {
			t.Errorf("~ of kind %d: %+v, %d", k, x, e)
		}
	}
}

// P19.3
func TestHint(t *testing.T) {
	for want, l := range []string{"=== !== in instanceof ! ~ typeof void delete = += ++ -- && || => ==== \x00 \xff x undefined", "+ == !=", "- * / % ** << >> >>> & | ^ < > <= >="} {
		for _, op := range strings.Fields(l) {
			if got := ops.Hint(op); got != want {
				t.Errorf("%s: %d", op, got)
			}
		}
	}
	for _, op := range []string{"", " ", "+ ", " <"} {
		if got := ops.Hint(op); got != 0 {
			t.Errorf("%q: %d", op, got)
		}
	}
}

// within says whether a's memory lies in b's.
func within(a, b api.Str) bool {
	from, at := uintptr(unsafe.Pointer(unsafe.StringData(string(b)))), uintptr(unsafe.Pointer(unsafe.StringData(string(a))))
	return len(a) > 0 && from <= at && at < from+uintptr(len(b))
}

// P2, of P19.1 and P19.2: what is answered lies in memory of its own.
func TestSharesNothing(t *testing.T) {
	given := text("some text")
	var all []api.Str
	for range 2 {
		kind, _ := ops.Unary("typeof", given)
		ahead, _ := ops.Binary("+", given, text(""))
		behind, _ := ops.Binary("+", text(""), given)
		all = append(all, kind.Str, ahead.Str, behind.Str)
	}
	for i, a := range all {
		if within(a, given.Str) {
			t.Errorf("answer %d shares memory with an argument", i)
		}
		for j, b := range all {
			if i != j && within(a, b) {
				t.Errorf("answers %d and %d share memory", i, j)
			}
		}
	}
}
