package nums_test

import (
	"math"
	"math/big"
	"testing"

	"lintel/nums"
)

// P2.4
func TestRem(t *testing.T) {
	const least = math.SmallestNonzeroFloat64
	for _, c := range []struct{ a, b, rest float64 }{
		{inf, 2, nan},
		{-inf, 2, nan},
		{inf, inf, nan},
		{inf, 0, nan},
		{1, 0, nan},
		{1, minus0, nan},
		{0, 0, nan},
		{minus0, 0, nan},
		{nan, 1, nan},
		{1, nan, nan},
		{0, nan, nan},
		{nan, inf, nan},
		{5, inf, 5},
		{5, -inf, 5},
		{-5, inf, -5},
		{minus0, inf, minus0},
		{0, -inf, 0},
		{math.MaxFloat64, inf, math.MaxFloat64},
		{0, 3, 0},
		{minus0, 3, minus0},
		{minus0, -3, minus0},
		{0, -3, 0},
		{-1, 1, minus0},
		{1, -1, 0},
		{-4, 2, minus0},
		{4, -2, 0},
		{5.5, 2, 1.5},
		{-5.5, 2, -1.5},
		{5.5, -2, 1.5},
		{-5.5, -2, -1.5},
		{1, 2, 1},
		{-1, 2, -1},
		{0.3, 0.1, 0.09999999999999998},
		{1, 0.1, 0.09999999999999995},
		{9007199254740993, 2, 0},
		{9007199254740991, 2, 1},
		{1e300, 3, 0},
		{math.MaxFloat64, 7, 5},
		{math.MaxFloat64, least, 0},
		{-math.MaxFloat64, least, minus0},
		{3 * least, 2 * least, least},
		{least, math.MaxFloat64, least},
		{0x1p-1022, 3 * least, least},
	} {
		if x := nums.Rem(c.a, c.b); !alike(x, c.rest) {
			t.Errorf("Rem(%v, %v): %v, not %v", c.a, c.b, x, c.rest)
		}
	}
}

// rest is an oracle for P2.4, of finite numbers of which b isn't 0: without rounding, by whole numbers.
func rest(a, b float64) float64 {
	n := new(big.Int).Rem(exact(a), exact(b))
	f := new(big.Float).SetPrec(3000).SetInt(n)
	f.SetMantExp(f, -1074)
	x, _ := f.Float64()
	return math.Copysign(x, a)
}

// P2.4, P2.8
func TestRemAll(t *testing.T) {
	l := many()
	hold := func(a, b float64) {
		if a-a != 0 || b-b != 0 || b == 0 {
			return
		}
		r := nums.Rem(a, b)
		if !alike(r, rest(a, b)) {
			t.Errorf("Rem(%v, %v): %v, not %v", a, b, r, rest(a, b))
		}
		if math.Abs(r) >= math.Abs(b) || math.Signbit(r) != math.Signbit(a) {
			t.Errorf("Rem(%v, %v): %v is none", a, b, r)
		}
		if again := nums.Rem(r, b); !alike(again, r) {
			t.Errorf("Rem(Rem(%v, %v), same): %v, not %v", a, b, again, r)
		}
	}
	for i, a := range l {
		hold(a, l[(i*11+5)%len(l)])
	}
	for _, a := range edges() {
		for _, b := range edges() {
			hold(a, b)
		}
	}
}

// powCase is a power that the document tells.
type powCase struct{ a, b, power float64 }

func holdPow(t *testing.T, l []powCase) {
	t.Helper()
	for _, c := range l {
		if x := nums.Pow(c.a, c.b); !alike(x, c.power) {
			t.Errorf("Pow(%v, %v): %v, not %v", c.a, c.b, x, c.power)
		}
	}
}

// P2.5, in the order of its choices
func TestPow(t *testing.T) {
	tiny := math.SmallestNonzeroFloat64
	holdPow(t, []powCase{
		{1, nan, nan},
		{0, nan, nan},
		{nan, nan, nan},
		{2, 0, 1},
		{2, minus0, 1},
		{nan, 0, 1},
		{nan, minus0, 1},
		{inf, 0, 1},
		{0, minus0, 1},
		{nan, 1, nan},
		{nan, inf, nan},
		{nan, -inf, nan},
		{nan, 0.5, nan},
		{nan, 2000, nan},
		{1, inf, nan},
		{-1, inf, nan},
		{1, -inf, nan},
		{-1, -inf, nan},
		{1.0000000000000002, inf, inf},
		{1.0000000000000002, -inf, 0},
		{-2, inf, inf},
		{-2, -inf, 0},
		{inf, inf, inf},
		{-inf, -inf, 0},
		{0.5, inf, 0},
		{-0.5, inf, 0},
		{0.5, -inf, inf},
		{-0.5, -inf, inf},
		{0, inf, 0},
		{minus0, inf, 0},
		{0, -inf, inf},
		{minus0, -inf, inf},
		{9, 0.5, 3},
		{2, 0.5, math.Sqrt2},
		{0, 0.5, 0},
		{minus0, 0.5, 0},
		{inf, 0.5, inf},
		{-inf, 0.5, inf},
		{-4, 0.5, nan},
		{1, 0.5, 1},
		{9, -0.5, nan},
		{4, 1.5, nan},
		{-8, 1.0 / 3, nan},
		{8, 1.0 / 3, nan},
		{1, tiny, nan},
		{0, 2.5, nan},
		{inf, -2.5, nan},
		{1, 0.25, nan},
		{2, 4503599627370495.5, nan},
		{5, 1, 5},
		{5, -1, 0.2},
		{2, 10, 1024},
		{2, -1, 0.5},
		{-2, 3, -8},
		{-2, -3, -0.125},
		{-2, 2, 4},
		{10, 15, 1e15},
		{10, 309, inf},
		{10, -309, 0},
		{-10, 309, -inf},
		{-10, -309, minus0},
		{2, 1023, 0x1p1023},
		{2, -1023, 0x1p-1023},
		{2, 1024, inf},
		{2, -1024, 0},
		{0.5, 1024, 0x1p-1024},
		{0.5, -1024, inf},
		{-1, 3, -1},
		{-1, 4, 1},
		{-1, -3, -1},
		{0, 1, 0},
		{0, 3, 0},
		{minus0, 3, minus0},
		{minus0, 2, 0},
		{0, -1, inf},
		{0, -2, inf},
		{minus0, -1, -inf},
		{minus0, -2, inf},
		{inf, 1, inf},
		{inf, -1, 0},
		{-inf, 1, -inf},
		{-inf, 2, inf},
		{-inf, -1, minus0},
		{-inf, -2, 0},
		{tiny, 2, 0},
		{-tiny, 3, minus0},
		{tiny, -1, inf},
		{math.MaxFloat64, 2, inf},
		{math.MaxFloat64, -2, 0},
	})
}

// P2.5: whole powers whose size is above 1024
func TestPowFar(t *testing.T) {
	near := 1 + 0x1p-52
	holdPow(t, []powCase{
		{near, 1024, nums.Pow(near, 512) * nums.Pow(near, 512)},
		{near, 1025, inf},
		{near, -1025, 0},
		{near, 1026, inf},
		{-near, 1025, -inf},
		{-near, 1026, inf},
		{-near, -1025, minus0},
		{-near, -1026, 0},
		{1 - 0x1p-53, 1025, 0},
		{1 - 0x1p-53, -1025, inf},
		{0x1p-53 - 1, 1025, minus0},
		{0x1p-53 - 1, 1026, 0},
		{0x1p-53 - 1, -1025, -inf},
		{0x1p-53 - 1, -1026, inf},
		{2, 1e300, inf},
		{-2, 9007199254740991, -inf},
		{-2, 9007199254740992, inf},
		{-2, -9007199254740991, minus0},
		{-2, math.MaxFloat64, inf},
		{math.SmallestNonzeroFloat64, 1025, 0},
		{0, 1025, 0},
		{0, 1026, 0},
		{minus0, 1025, minus0},
		{minus0, 1026, 0},
		{0, -1025, inf},
		{minus0, -1025, -inf},
		{minus0, -1026, inf},
		{minus0, 9007199254740991, minus0},
		{minus0, 1e300, 0},
		{inf, 1025, inf},
		{inf, -1025, 0},
		{-inf, 1025, -inf},
		{-inf, 1026, inf},
		{-inf, -1025, minus0},
		{-inf, -1026, 0},
		{-inf, math.MaxFloat64, inf},
		{1, 1025, 1},
		{1, -1e300, 1},
		{-1, 1025, -1},
		{-1, 1026, 1},
		{-1, -1025, -1},
		{-1, 9007199254740991, -1},
		{-1, 1e300, 1},
		{-1, -math.MaxFloat64, 1},
	})
}

// power is an oracle for P2.5: a to n, by the bits of n without its lowest, then that one.
func power(a float64, n int) float64 {
	if n == 0 {
		return 1
	}
	p := power(a, n/2)
	p = float64(p * p)
	if n%2 == 1 {
		p = float64(p * a)
	}
	return p
}

// P2.5: each product is rounded, from the highest bit on
func TestPowRounded(t *testing.T) {
	holdPow(t, []powCase{
		{1.1, 10, 2.593742460100002},
		{1.1, 13, 3.4522712143931047},
		{1.1, -13, 0.2896643797366876},
		{0.1, 5, 0.000010000000000000006},
		{0.1, -7, 9999999.999999994},
		{1.0000001, 1000, 1.0001000049952113},
		{3.3, 23, 842986495178.818},
		{-0.7, 301, -2.368699914052379e-47},
		{-0.7, -301, -4.22172515001783e+46},
		{10, 25, 9.999999999999999e+24},
		{10, 308, 9.999999999999994e+307},
		{10, -308, 1.0000000000000004e-308},
		{7, 40, 6.366805760909027e+33},
		{1.7, 511, 5.746439309459639e+117},
	})
	for _, a := range edges() {
		if a != a {
			continue
		}
		for n := 1; n <= 1024; n++ {
			if x := nums.Pow(a, float64(n)); !alike(x, power(a, n)) {
				t.Errorf("Pow(%v, %d): %v", a, n, x)
			}
			if x := nums.Pow(a, float64(-n)); !alike(x, 1/power(a, n)) {
				t.Errorf("Pow(%v, -%d): %v", a, n, x)
			}
		}
	}
}
