package ops_test

import (
	"math"
	"math/big"
	"math/rand"
	"strings"
	"testing"

	"lintel/api"
	"lintel/conv"
	"lintel/nums"
	"lintel/ops"
	"lintel/units"
)

// operators are all binary ones that there are, and what is none.
var operators = strings.Fields("=== !== == != + - * / % ** << >> >>> & | ^ < > <= >= in instanceof ! ~ typeof delete")

// grown lists values of all kinds, those that are none among them, with fields of all sorts, named by their kinds or not.
func grown() []api.Value {
	var out []api.Value
	for _, kind := range []int{math.MinInt, -1, 0, 1, 2, 3, 4, 5, 6, 7} {
		for _, x := range []float64{0, minus0, 1, -2.5, 4294967295, nan, inf} {
			for _, s := range []api.Str{"", of("1") + "x", of(" -3 "), of("a")} {
				out = append(out, api.Value{Kind: kind, Num: x, Str: s, Ref: len(out)%3 - 1})
			}
		}
	}
	return out
}

// plain is v with the fields that its kind names alone, and in these with what counts.
func plain(v api.Value) api.Value {
	switch v.Kind {
	case api.Null:
		return null()
	case api.Bool:
		return truth(v.Num == 1)
	case api.Number:
		return number(v.Num)
	case api.Text:
		return api.Value{Kind: api.Text, Str: v.Str[:len(v.Str)/2*2]}
	case api.Symbol:
		return symbol(v.Ref)
	case api.Object:
		return reference(v.Ref)
	}
	return void()
}

// wordsBinary is an oracle for P19.2, of plain values: the promise's words, one behind the other.
func wordsBinary(op string, a, b api.Value) (api.Value, api.Errno) {
	has := func(kind int) bool { return a.Kind == kind || b.Kind == kind }
	switch op {
	case "===", "!==":
		return truth(conv.Same(a, b, api.SameStrict) == (op == "===")), api.OK
	case "==", "!=":
		is, known := conv.Loose(a, b)
		if !known {
			return void(), api.ErrPrim
		}
		return truth(is == (op == "==")), api.OK
	case "in", "instanceof", "!", "~", "typeof", "delete":
		return void(), api.ErrOp
	}
	if has(api.Object) {
		return void(), api.ErrPrim
	}
	if has(api.Symbol) {
		return void(), api.ErrType
	}
	if op == "+" && has(api.Text) {
		s, _ := conv.Text(a)
		r, _ := conv.Text(b)
		return api.Value{Kind: api.Text, Str: s + r}, api.OK
	}
	x, _ := conv.Number(a)
	y, _ := conv.Number(b)
	if strings.ContainsAny(op, "<>") && op != "<<" && op != ">>" && op != ">>>" {
		c := 2 // no order
		switch {
		case a.Kind == api.Text && b.Kind == api.Text:
			c = units.Compare(a.Str, b.Str)
		case x == y:
			c = 0
		case x < y:
			c = -1
		case x > y:
			c = 1
		}
		return truth(op == "<" && c == -1 || op == ">" && c == 1 || op == "<=" && c <= 0 || op == ">=" && (c == 0 || c == 1)), api.OK
	}
	return number(wordsSum(op, x, y)), api.OK
}

// wordsSum is an oracle for the sums of two numbers: a whole one of 32 bits by its remainder, without nums.
func wordsSum(op string, x, y float64) float64 {
	whole := func(x float64) int64 {
		if math.IsNaN(x) || math.IsInf(x, 0) {
			return 0
		}
		n, _ := big.NewFloat(x).Int(nil)
		return n.Mod(n, big.NewInt(1<<32)).Int64()
	}
	signed := func(n int64) float64 { return float64((n+1<<31)%(1<<32) - 1<<31) }
	places := whole(y) % 32
	switch op {
	case "+":
		return x + y
	case "-":
		return x - y
	case "*":
		return x * y
	case "/":
		return x / y
	case "%":
		return nums.Rem(x, y)
	case "**":
		return nums.Pow(x, y)
	case "<<":
		return signed(whole(x) << places % (1 << 32))
	case ">>":
		return math.Floor(signed(whole(x)) / float64(int64(1)<<places))
	case ">>>":
		return float64(whole(x) >> places)
	case "&":
		return signed(whole(x) & whole(y))
	case "|":
		return signed(whole(x) | whole(y))
	}
	return signed(whole(x) ^ whole(y))
}

// wordsUnary is an oracle for P19.1, of plain values.
func wordsUnary(op string, v api.Value) (api.Value, api.Errno) {
	x, is := conv.Number(v)
	switch op {
	case "!":
		return truth(!conv.Truthy(v)), api.OK
	case "typeof":
		return text(conv.Type(v)), api.OK
	case "void":
		return void(), api.OK
	case "+", "-", "~":
		if v.Kind == api.Object {
			return void(), api.ErrPrim
		}
		if !is {
			return void(), api.ErrType
		}
	}
	switch op {
	case "+":
		return number(x), api.OK
	case "-":
		return number(math.Copysign(x, -math.Copysign(1, x))), api.OK
	case "~":
		return number(-1 - float64(nums.Int32(x))), api.OK
	}
	return void(), api.ErrOp
}

// P19.1, P19.2: each operator at values of all kinds with each other; what does not count changes nothing,
// and what is answered is good.
func TestGrown(t *testing.T) {
	values := grown()
	for _, op := range append(operators, "void", "++", "") {
		for _, v := range values {
			got, e := ops.Unary(op, v)
			if want, f := wordsUnary(op, plain(v)); !alike(got, want) || e != f || !conv.Good(got) {
				t.Fatalf("%s %+v: %+v, %d, not %+v, %d", op, v, got, e, want, f)
			}
		}
	}
	for _, op := range operators {
		for _, v := range values {
			for _, w := range values {
				got, e := ops.Binary(op, v, w)
				if want, f := wordsBinary(op, plain(v), plain(w)); !alike(got, want) || e != f || !conv.Good(got) {
					t.Fatalf("%+v %s %+v: %+v, %d, not %+v, %d", v, op, w, got, e, want, f)
				}
			}
		}
	}
}

// anyNumber is a number as it comes: small ones, those about powers of two, and any bits.
func anyNumber(r *rand.Rand) float64 {
	switch r.Intn(6) {
	case 0:
		return float64(r.Intn(9) - 4)
	case 1:
		return (math.Ldexp(1, r.Intn(70)) + float64(r.Intn(3)-1)) * float64(1-2*r.Intn(2))
	case 2:
		return r.NormFloat64() * 1e5
	case 3:
		return []float64{minus0, 0, nan, inf, -inf, math.MaxFloat64, math.SmallestNonzeroFloat64}[r.Intn(7)]
	case 4:
		return r.Float64() * 4e9
	}
	return math.Float64frombits(r.Uint64())
}

// anyText is a text as it comes, of few letters, so that many are alike or begin alike.
func anyText(r *rand.Rand) api.Str {
	b := make([]byte, 2*r.Intn(4))
	for i := range b {
		b[i] = []byte{0, 'a', '1', 0xd8, 0xff}[r.Intn(5)]
	}
	return api.Str(b)
}

// P19.2: any numbers, against the words.
func TestAnyNumbers(t *testing.T) {
	r := rand.New(rand.NewSource(19))
	for range 20000 {
		a, b := number(anyNumber(r)), number(anyNumber(r))
		for _, op := range operators {
			got, e := ops.Binary(op, a, b)
			if want, f := wordsBinary(op, a, b); !alike(got, want) || e != f {
				t.Fatalf("%v %s %v: %+v, %d, not %+v", a.Num, op, b.Num, got, e, want)
			}
		}
	}
}

// must is what an operator answers that can't go wrong.
func must(t *testing.T, op string, a, b api.Value) api.Value {
	t.Helper()
	v, e := ops.Binary(op, a, b)
	if e != api.OK {
		t.Fatalf("%+v %s %+v: %d", a, op, b, e)
	}
	return v
}

// P19.4
func TestField(t *testing.T) {
	r := rand.New(rand.NewSource(4))
	for range 20000 {
		a, b := number(anyNumber(r)), number(anyNumber(r))
		for _, op := range []string{"+", "*"} {
			if v, w := must(t, op, a, b), must(t, op, b, a); !conv.Same(v, w, api.SameValue) {
				t.Fatalf("%v %s %v: %v, the other way round %v", a.Num, op, b.Num, v.Num, w.Num)
			}
		}
		turned, _ := ops.Unary("-", b)
		if v, w := must(t, "-", a, b), must(t, "+", a, turned); !conv.Same(v, w, api.SameValue) {
			t.Fatalf("%v - %v: %v, but with + %v", a.Num, b.Num, v.Num, w.Num)
		}
	}
}

// P19.5
func TestOrder(t *testing.T) {
	r := rand.New(rand.NewSource(5))
	for range 20000 {
		a, b := number(anyNumber(r)), number(anyNumber(r))
		if r.Intn(2) == 0 {
			a, b = api.Value{Kind: api.Text, Str: anyText(r)}, api.Value{Kind: api.Text, Str: anyText(r)}
		}
		so := 0
		for _, op := range []string{"<", ">", "==="} {
			so += int(must(t, op, a, b).Num)
		}
		want := 1
		if math.IsNaN(a.Num) || math.IsNaN(b.Num) {
			want = 0
		}
		if so != want {
			t.Fatalf("%+v, %+v: %d of <, >, === are so", a, b, so)
		}
	}
}
