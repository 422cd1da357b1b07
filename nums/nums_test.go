package nums_test

import (
	"math"
	"math/big"
	"math/rand"
	"testing"

	"lintel/api"
	"lintel/nums"
)

var (
	inf    = math.Inf(1)
	nan    = math.NaN()
	minus0 = math.Copysign(0, -1)
)

// alike says whether two numbers are one: NaN is one, 0 isn't -0.
func alike(a, b float64) bool {
	if a != a || b != b {
		return a != a && b != b
	}
	return math.Float64bits(a) == math.Float64bits(b)
}

// edges lists the numbers about which the promises turn, each with both signs, and NaN with several bits.
func edges() []float64 {
	l := []float64{nan, math.Float64frombits(0xFFF8000000000001), math.Float64frombits(0x7FF0000000000001)}
	for _, x := range []float64{0, math.SmallestNonzeroFloat64, 3 * math.SmallestNonzeroFloat64, 0x1p-1022, 0x1.8p-1000, 0.1, 0.5, 1, 1.5, 2, 3, 5.5, 7, 31, 32, 33, 1024, 1025} {
		l = append(l, x, -x)
	}
	for _, p := range []float64{15, 16, 31, 32, 33, 52, 53, 54, 62, 63, 64, 65, 84, 85, 100, 1000, 1023} {
		x := math.Exp2(p)
		for _, y := range []float64{x, x - 1, x + 1, x - 0.5, x + 0.5, math.Nextafter(x, 0), math.Nextafter(x, inf)} {
			l = append(l, y, -y)
		}
	}
	return append(l, math.MaxFloat64, -math.MaxFloat64, inf, -inf)
}

// many lists the edges, and numbers of any bits, of any sizes below 2^100, and whole ones.
func many() []float64 {
	r := rand.New(rand.NewSource(2))
	l := edges()
	for range 3000 {
		l = append(l, math.Float64frombits(r.Uint64()), math.Ldexp(r.Float64()-0.5, r.Intn(100)), float64(int64(r.Uint64())>>r.Intn(64)))
	}
	return l
}

// exact is x times 2^1074, which is whole for every finite x.
func exact(x float64) *big.Int {
	f := new(big.Float).SetPrec(3000).SetFloat64(x)
	f.SetMantExp(f, 1074)
	n, _ := f.Int(nil)
	return n
}

// modulo is an oracle for P2.1: x cut off towards 0, modulo 2^bits.
func modulo(x float64, bits uint) uint64 {
	if x != x || math.IsInf(x, 0) {
		return 0
	}
	cut := new(big.Int).Quo(exact(x), new(big.Int).Lsh(big.NewInt(1), 1074))
	return cut.Mod(cut, new(big.Int).Lsh(big.NewInt(1), bits)).Uint64()
}

// signed is u as the document has it: less 2^32 from 2^31 on.
func signed(u uint64) int64 {
	if u >= 1<<31 {
		return int64(u) - 1<<32
	}
	return int64(u)
}

// P2.1
func TestIntegers(t *testing.T) {
	for _, c := range []struct {
		x   float64
		u32 uint32
		i32 int32
		u16 uint16
	}{
		{nan, 0, 0, 0},
		{inf, 0, 0, 0},
		{-inf, 0, 0, 0},
		{0, 0, 0, 0},
		{minus0, 0, 0, 0},
		{0.9, 0, 0, 0},
		{-0.9, 0, 0, 0},
		{1, 1, 1, 1},
		{-1, 4294967295, -1, 65535},
		{-1.5, 4294967295, -1, 65535},
		{65535.9, 65535, 65535, 65535},
		{65536, 65536, 65536, 0},
		{65537, 65537, 65537, 1},
		{-65537, 4294901759, -65537, 65535},
		{2147483647, 2147483647, 2147483647, 65535},
		{2147483647.9, 2147483647, 2147483647, 65535},
		{2147483648, 2147483648, -2147483648, 0},
		{-2147483648, 2147483648, -2147483648, 0},
		{-2147483649, 2147483647, 2147483647, 65535},
		{4294967295.5, 4294967295, -1, 65535},
		{4294967296, 0, 0, 0},
		{4294967297, 1, 1, 1},
		{-4294967297, 4294967295, -1, 65535},
		{9007199254740993, 0, 0, 0},
		{0x1p63, 0, 0, 0},
		{0x1.0000000008p63, 0x4000000, 0x4000000, 0},
		{-0x1p63, 0, 0, 0},
		{0x1.00000000000ffp63, 522240, 522240, 63488},
		{-0x1.00000000000ffp63, 4294445056, -522240, 2048},
		{0x1.0000000000001p83, 0x80000000, -0x80000000, 0},
		{-0x1.0000000000001p83, 0x80000000, -0x80000000, 0},
		{0x1.0000000000001p84, 0, 0, 0},
		{math.MaxFloat64, 0, 0, 0},
	} {
		if u, i, h := nums.Uint32(c.x), nums.Int32(c.x), nums.Uint16(c.x); u != c.u32 || i != c.i32 || h != c.u16 {
			t.Errorf("%v: %d %d %d, not %d %d %d", c.x, u, i, h, c.u32, c.i32, c.u16)
		}
	}
	for _, x := range many() {
		if u, i, h := nums.Uint32(x), nums.Int32(x), nums.Uint16(x); uint64(u) != modulo(x, 32) || int64(i) != signed(modulo(x, 32)) || uint64(h) != modulo(x, 16) {
			t.Errorf("%v: %d %d %d", x, u, i, h)
		}
	}
}

// P2.2
func TestWholeLength(t *testing.T) {
	const most = 9007199254740991
	for _, c := range []struct{ x, whole, length float64 }{
		{nan, 0, 0},
		{inf, inf, most},
		{-inf, -inf, 0},
		{0, 0, 0},
		{minus0, 0, 0},
		{0.99, 0, 0},
		{-0.99, 0, 0},
		{-math.SmallestNonzeroFloat64, 0, 0},
		{1, 1, 1},
		{-1, -1, 0},
		{2.5, 2, 2},
		{-2.5, -2, 0},
		{4503599627370495.5, 4503599627370495, 4503599627370495},
		{most - 1, most - 1, most - 1},
		{most, most, most},
		{most + 1, most + 1, most},
		{-most - 1, -most - 1, 0},
		{1e300, 1e300, most},
		{-1e300, -1e300, 0},
	} {
		if w, l := nums.Whole(c.x), nums.Length(c.x); !alike(w, c.whole) || !alike(l, c.length) {
			t.Errorf("%v: %v %v", c.x, w, l)
		}
	}
}

// P2.3
func TestShifts(t *testing.T) {
	for _, c := range []struct{ a, b, left, right, over, product float64 }{
		{1, 0, 1, 1, 1, 0},
		{1, 31, -2147483648, 0, 0, 31},
		{1, 32, 1, 1, 1, 32},
		{1, 33, 2, 0, 0, 33},
		{-1, 0, -1, -1, 4294967295, 0},
		{-1, 28, -268435456, -1, 15, -28},
		{-1, -1, -2147483648, -1, 1, 1},
		{-9, 1.9, -18, -5, 2147483643, -9},
		{5, -31, 10, 2, 2, -155},
		{4294967295, 5, -32, -1, 134217727, -5},
		{2147483648, 1, 0, -1073741824, 1073741824, -2147483648},
		{2147483648, 2147483648, -2147483648, -2147483648, 2147483648, 0},
		{2147483647, 2147483647, -2147483648, 0, 0, 1},
		{-2147483648, -1, 0, -1, 1, -2147483648},
		{65537, 65537, 131074, 32768, 32768, 131073},
		{4294967298.7, 4294967297.7, 4, 1, 1, 2},
		{nan, 3, 0, 0, 0, 0},
		{3, nan, 3, 3, 3, 0},
		{inf, -inf, 0, 0, 0, 0},
		{minus0, minus0, 0, 0, 0, 0},
		{-0.5, 1, 0, 0, 0, 0},
	} {
		if x := nums.Left(c.a, c.b); !alike(x, c.left) {
			t.Errorf("Left(%v, %v): %v", c.a, c.b, x)
		}
		if x := nums.Right(c.a, c.b); !alike(x, c.right) {
			t.Errorf("Right(%v, %v): %v", c.a, c.b, x)
		}
		if x := nums.Over(c.a, c.b); !alike(x, c.over) {
			t.Errorf("Over(%v, %v): %v", c.a, c.b, x)
		}
		if x := nums.Mul32(c.a, c.b); !alike(x, c.product) {
			t.Errorf("Mul32(%v, %v): %v", c.a, c.b, x)
		}
	}
}

// P2.3, held against powers of two and products without bounds
func TestShiftsAll(t *testing.T) {
	l := many()
	two := big.NewInt(2)
	ring := new(big.Int).Exp(two, big.NewInt(32), nil)
	for i, a := range l {
		b := l[(i*7+3)%len(l)]
		by := new(big.Int).Exp(two, big.NewInt(int64(modulo(b, 32)%32)), nil)
		u := new(big.Int).SetUint64(modulo(a, 32))
		s := big.NewInt(signed(modulo(a, 32)))
		in := func(x *big.Int) float64 { return float64(signed(x.Mod(x, ring).Uint64())) }
		if x := nums.Left(a, b); !alike(x, in(new(big.Int).Mul(s, by))) {
			t.Errorf("Left(%v, %v): %v", a, b, x)
		}
		right, _ := new(big.Int).Div(s, by).Float64()
		if x := nums.Right(a, b); !alike(x, right) {
			t.Errorf("Right(%v, %v): %v", a, b, x)
		}
		over, _ := new(big.Int).Div(u, by).Float64()
		if x := nums.Over(a, b); !alike(x, over) {
			t.Errorf("Over(%v, %v): %v", a, b, x)
		}
		if x := nums.Mul32(a, b); !alike(x, in(new(big.Int).Mul(s, big.NewInt(signed(modulo(b, 32)))))) {
			t.Errorf("Mul32(%v, %v): %v", a, b, x)
		}
	}
}

// P2.6
func TestSame(t *testing.T) {
	other := math.Float64frombits(0xFFF8000000000123)
	for _, c := range []struct {
		a, b                float64
		strict, zero, value bool
	}{
		{1, 1, true, true, true},
		{1, 2, false, false, false},
		{1, -1, false, false, false},
		{-3, -3, true, true, true},
		{0, 0, true, true, true},
		{0, minus0, true, true, false},
		{minus0, 0, true, true, false},
		{minus0, minus0, true, true, true},
		{nan, nan, false, true, true},
		{nan, other, false, true, true},
		{other, nan, false, true, true},
		{nan, 0, false, false, false},
		{1, nan, false, false, false},
		{nan, inf, false, false, false},
		{inf, inf, true, true, true},
		{inf, -inf, false, false, false},
		{0.1, math.Nextafter(0.1, 1), false, false, false},
	} {
		if x := nums.Same(c.a, c.b, api.SameStrict); x != c.strict {
			t.Errorf("Same(%v, %v, SameStrict): %v", c.a, c.b, x)
		}
		if x := nums.Same(c.a, c.b, api.SameZero); x != c.zero {
			t.Errorf("Same(%v, %v, SameZero): %v", c.a, c.b, x)
		}
		if x := nums.Same(c.a, c.b, api.SameValue); x != c.value {
			t.Errorf("Same(%v, %v, SameValue): %v", c.a, c.b, x)
		}
		for _, how := range []int{-1, 3, 4, math.MinInt, math.MaxInt} {
			if nums.Same(c.a, c.b, how) {
				t.Errorf("Same(%v, %v, %d)", c.a, c.b, how)
			}
		}
	}
}

// P2.6
func TestLess(t *testing.T) {
	for _, c := range []struct {
		a, b          float64
		less, numbers bool
	}{
		{1, 2, true, true},
		{2, 1, false, true},
		{1, 1, false, true},
		{0, minus0, false, true},
		{minus0, 0, false, true},
		{-inf, inf, true, true},
		{inf, -inf, false, true},
		{inf, inf, false, true},
		{-1, -math.SmallestNonzeroFloat64, true, true},
		{nan, 1, false, false},
		{1, nan, false, false},
		{nan, -inf, false, false},
		{inf, nan, false, false},
		{nan, nan, false, false},
	} {
		if less, numbers := nums.Less(c.a, c.b); less != c.less || numbers != c.numbers {
			t.Errorf("Less(%v, %v): %v %v", c.a, c.b, less, numbers)
		}
	}
}

// P2.7
func TestRings(t *testing.T) {
	const most = 1 << 52
	l := []float64{0, minus0, 1, -1, most, -most, most - 1, 1 - most, 1 << 31, -(1 << 31), 1<<32 - 1, 1 << 32, 1<<32 + 1, -(1<<32 + 1)}
	r := rand.New(rand.NewSource(7))
	for range 200 {
		l = append(l, float64(r.Int63n(2*most+1)-most), float64(r.Int63n(1<<33)-1<<32))
	}
	for _, a := range l {
		for _, b := range l {
			sum, rest := nums.Uint32(a)+nums.Uint32(b), nums.Uint32(a)-nums.Uint32(b)
			if nums.Uint32(a+b) != sum || nums.Int32(a+b) != int32(sum) {
				t.Errorf("%v + %v: %d %d", a, b, nums.Uint32(a+b), nums.Int32(a+b))
			}
			if nums.Uint32(a-b) != rest || nums.Int32(a-b) != int32(rest) {
				t.Errorf("%v - %v: %d %d", a, b, nums.Uint32(a-b), nums.Int32(a-b))
			}
		}
	}
}
