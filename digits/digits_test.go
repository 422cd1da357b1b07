package digits_test

import (
	"math"
	"math/big"
	"math/rand"
	"strconv"
	"strings"
	"testing"

	"lintel/api"
	"lintel/digits"
	"lintel/units"
)

var (
	inf    = math.Inf(1)
	nan    = math.NaN()
	minus0 = math.Copysign(0, -1)
)

const (
	tiny  = math.SmallestNonzeroFloat64
	great = math.MaxFloat64
)

// of makes a text of UTF-8 that is known to be good.
func of(t *testing.T, s string) api.Str {
	t.Helper()
	u, at, e := units.Of(s)
	if at != 0 || e != api.OK {
		t.Fatalf("Of(%q): place %d, error %d", s, at, e)
	}
	return u
}

// alike says whether two numbers are one: NaN is one, 0 isn't -0.
func alike(a, b float64) bool {
	if a != a || b != b {
		return a != a && b != b
	}
	return math.Float64bits(a) == math.Float64bits(b)
}

// shown is Show as UTF-8; each byte of what it answers must be that of a unit below 128.
func shown(t *testing.T, x float64) string {
	t.Helper()
	s := digits.Show(x)
	for i := 0; i < len(s); i += 2 {
		if s[i] != 0 || i+1 == len(s) || s[i+1] > 127 {
			t.Fatalf("Show(%v): %x", x, s)
		}
	}
	return units.Text(s)
}

// P3.1
func TestShow(t *testing.T) {
	for _, c := range []struct {
		x    float64
		want string
	}{
		{nan, "NaN"},
		{math.Float64frombits(0xFFF8000000000001), "NaN"},
		{inf, "Infinity"},
		{-inf, "-Infinity"},
		{0, "0"},
		{minus0, "0"},
		{1, "1"},
		{-1, "-1"},
		{10, "10"},
		{-100, "-100"},
		{1.5, "1.5"},
		{-1.5, "-1.5"},
		{0.1, "0.1"},
		{0.5, "0.5"},
		{-0.25, "-0.25"},
		{123.456, "123.456"},
		{1.0 / 3, "0.3333333333333333"},
		{0.1 + math.Nextafter(0.2, 1), "0.30000000000000004"},
		{9007199254740991, "9007199254740991"},
		{9007199254740993, "9007199254740992"},
		{123456789012345680000, "123456789012345680000"},
		{1e20, "100000000000000000000"},
		{999999999999999900000, "999999999999999900000"},
		{1e21, "1e+21"},
		{-1e21, "-1e+21"},
		{1.5e21, "1.5e+21"},
		{1234567890123456789012, "1.2345678901234568e+21"},
		{1e23, "1e+23"},
		{1e100, "1e+100"},
		{0.001, "0.001"},
		{0.000001, "0.000001"},
		{0.0000012, "0.0000012"},
		{-0.0000015, "-0.0000015"},
		{0.00000123456789012345, "0.00000123456789012345"},
		{9.99e-7, "9.99e-7"},
		{1e-7, "1e-7"},
		{-1.5e-7, "-1.5e-7"},
		{1e-10, "1e-10"},
		{1e-100, "1e-100"},
		{tiny, "5e-324"},
		{-tiny, "-5e-324"},
		{2 * tiny, "1e-323"},
		{3 * tiny, "1.5e-323"},
		{0x1p-1022, "2.2250738585072014e-308"},
		{math.Nextafter(0x1p-1022, 0), "2.225073858507201e-308"},
		{great, "1.7976931348623157e+308"},
		{0x1p-44, "5.684341886080802e-14"}, // ..801 is nearer, and is read as the number below
		{0x1p-1019, "1.7800590868057611e-307"},
		// Of two alike near ones the even one:
		{0x1p50 + 0.25, "1125899906842624.2"},
		{0x1p50 + 0.75, "1125899906842624.8"},
		{0x1p49 + 0.25, "562949953421312.2"},
		{0x1p47 + 0.125, "140737488355328.12"},
		{0x1p47 + 0.375, "140737488355328.38"},
	} {
		if got := shown(t, c.x); got != c.want {
			t.Errorf("Show(%v): %q, not %q", c.x, got, c.want)
		}
	}
}

// many lists numbers above 0 at which digits turn: powers of two and ten with their neighbours, numbers half
// way between two with few digits, and others of any bits and of few digits.
func many() []float64 {
	r := rand.New(rand.NewSource(3))
	var l []float64
	near := func(x float64) {
		for _, y := range []float64{math.Nextafter(x, 0), x, math.Nextafter(x, inf)} {
			if y > 0 && y < inf {
				l = append(l, y)
			}
		}
	}
	for p := -1074; p < 1024; p++ {
		near(math.Ldexp(1, p))
		near(math.Ldexp(1+r.Float64(), p))
	}
	for p := -324; p < 309; p++ {
		for _, d := range []int{1, 2, 5, 9} {
			x, _ := new(big.Rat).SetString(strconv.Itoa(d) + "e" + strconv.Itoa(p))
			y, _ := x.Float64()
			near(y)
		}
	}
	for p := 30; p < 54; p++ {
		for range 40 {
			l = append(l, math.Ldexp(1, p)+math.Ldexp(float64(2*r.Intn(512)+1), p-52+r.Intn(8)))
		}
	}
	for range 4000 {
		x := math.Abs(math.Float64frombits(r.Uint64()))
		if x > 0 && x < inf {
			l = append(l, x)
		}
		l = append(l, math.Ldexp(r.Float64()+0.5, r.Intn(200)-100), float64(r.Int63n(1000000)+1)/1000, float64(r.Int63()>>r.Intn(60)+1))
	}
	for range 300 { // few bits, below the least number of 53 of them
		l = append(l, float64(r.Intn(4096)+1)*tiny)
	}
	return l
}

// scaled is x times 2^1074 and 10^400, which is whole for every finite x, and so is its half.
func scaled(x float64) *big.Int {
	mantissa, power := math.Frexp(x)
	n := big.NewInt(int64(math.Ldexp(mantissa, 53)))
	n.Mul(n, ten(400))
	shift := 1074 - 53 + power
	return n.Rsh(n.Lsh(n, uint(max(shift, 0))), uint(max(-shift, 0)))
}

// ten is 10 to the power p.
func ten(p int) *big.Int { return new(big.Int).Exp(big.NewInt(10), big.NewInt(int64(p)), nil) }

// field is the least and the greatest number, scaled, that is read as x, and whether these themselves are.
func field(x float64) (least, greatest *big.Int, closed bool) {
	middle := func(y float64) *big.Int {
		sum := new(big.Int).Add(scaled(x), scaled(y))
		return sum.Rsh(sum, 1)
	}
	least = middle(math.Nextafter(x, 0))
	if x == great { // the next number would be as far off as the one below
		greatest = new(big.Int).Sub(new(big.Int).Lsh(scaled(x), 1), least)
	} else {
		greatest = middle(math.Nextafter(x, inf))
	}
	return least, greatest, math.Float64bits(x)%2 == 0
}

// fewest is an oracle for P3.1, by its words: of rising numbers of digits the first of which some are read back
// as x, of these the nearest to x, of two the even one; and the n for which x is 0.d1..dk times 10^n.
func fewest(x float64) (string, int) {
	least, greatest, closed := field(x)
	one := new(big.Int).Lsh(big.NewInt(1), 1074)
	all := scaled(x)
	first := len(new(big.Int).Quo(all, one).String()) - 1 // the power of ten of x's first digit, and 400
	for k := 1; ; k++ {
		unit := new(big.Int).Mul(one, ten(first-k+1))
		low := new(big.Int).Quo(all, unit)
		var best, off *big.Int
		for _, d := range []*big.Int{low, new(big.Int).Add(low, big.NewInt(1))} {
			number := new(big.Int).Mul(d, unit)
			a, b := number.Cmp(least), number.Cmp(greatest)
			if a < 0 || b > 0 || !closed && (a == 0 || b == 0) {
				continue
			}
			away := number.Sub(number, all)
			away.Abs(away)
			if best == nil || away.Cmp(off) < 0 || away.Cmp(off) == 0 && d.Bit(0) == 0 {
				best, off = d, away
			}
		}
		if best != nil {
			s := best.String()
			return strings.TrimRight(s, "0"), first - 400 - k + 1 + len(s)
		}
	}
}

// layout is an oracle for P3.1: the digits, laid as the document says.
func layout(d string, n int) string {
	k := len(d)
	noughts := func(n int) string { return strings.Repeat("0", n) }
	if k <= n && n <= 21 {
		return d + noughts(n-k)
	}
	if 1 <= n && n <= 21 {
		return d[:n] + "." + d[n:]
	}
	if -5 <= n && n <= 0 {
		return "0." + noughts(-n) + d
	}
	s := d[:1]
	if k > 1 {
		s += "." + d[1:]
	}
	if n-1 < 0 {
		return s + "e-" + strconv.Itoa(1-n)
	}
	return s + "e+" + strconv.Itoa(n-1)
}

// P3.1, P3.7
func TestShowMany(t *testing.T) {
	for _, x := range many() {
		want := layout(fewest(x))
		if got := shown(t, x); got != want {
			t.Errorf("Show(%v): %q, not %q", x, got, want)
		}
		if got := shown(t, -x); got != "-"+want {
			t.Errorf("Show(%v): %q, not -%q", -x, got, want)
		}
	}
}

// P3.7
func TestThereAndBack(t *testing.T) {
	for _, x := range append(many(), nan, inf) {
		if y := digits.Read(digits.Show(x)); !alike(x, y) {
			t.Errorf("%v comes back as %v", x, y)
		}
		if y := digits.Read(digits.Show(-x)); !alike(-x, y) {
			t.Errorf("%v comes back as %v", -x, y)
		}
	}
	for _, x := range []float64{0, minus0} {
		if y := digits.Read(digits.Show(x)); !alike(y, 0) {
			t.Errorf("%v comes back as %v", x, y)
		}
	}
}

// P3.2
func TestBase(t *testing.T) {
	const most = 9007199254740991
	for _, c := range []struct {
		x    float64
		base int
		want string
	}{
		{-255, 16, "-ff"},
		{255, 16, "ff"},
		{255, 2, "11111111"},
		{255, 8, "377"},
		{255, 36, "73"},
		{35, 36, "z"},
		{36, 36, "10"},
		{-35, 36, "-z"},
		{0, 2, "0"},
		{minus0, 2, "0"},
		{minus0, 36, "0"},
		{minus0, 10, "0"},
		{most, 2, strings.Repeat("1", 53)},
		{-most, 2, "-" + strings.Repeat("1", 53)},
		{most, 36, "2gosa7pa2gv"},
		{nan, 2, "NaN"},
		{inf, 36, "Infinity"},
		{-inf, 16, "-Infinity"},
		{12, 10, "12"},
		{0.5, 10, "0.5"},
		{-1e21, 10, "-1e+21"},
		{most + 1, 10, "9007199254740992"},
		{tiny, 10, "5e-324"},
	} {
		if got, e := digits.Base(c.x, c.base); units.Text(got) != c.want || e != api.OK {
			t.Errorf("Base(%v, %d): %q, %d, not %q", c.x, c.base, units.Text(got), e, c.want)
		}
	}
}

// P3.2
func TestBaseWrong(t *testing.T) {
	for _, c := range []struct {
		x    float64
		base int
	}{
		{1, 1},
		{1, 0},
		{1, -2},
		{1, -16},
		{1, 37},
		{1, math.MinInt},
		{1, math.MaxInt},
		{1, 1<<32 + 10},
		{nan, 1},
		{inf, 37},
		{-inf, 0},
		{0.5, 2},
		{-0.5, 16},
		{1.5, 36},
		{tiny, 9},
		{-tiny, 9},
		{9007199254740992, 16},
		{-9007199254740992, 2},
		{0x1p63, 16},
		{1e300, 11},
		{-great, 36},
		{4503599627370495.5, 16},
	} {
		if got, e := digits.Base(c.x, c.base); got != "" || e != api.ErrRange {
			t.Errorf("Base(%v, %d): %q, %d", c.x, c.base, units.Text(got), e)
		}
	}
}

// P3.2, held against whole numbers without bounds
func TestBaseMany(t *testing.T) {
	r := rand.New(rand.NewSource(4))
	for range 20000 {
		n, base := r.Int63n(1<<53)>>r.Intn(53), r.Intn(35)+2
		if r.Intn(2) == 0 {
			n = -n
		}
		if got, e := digits.Base(float64(n), base); units.Text(got) != big.NewInt(n).Text(base) || e != api.OK {
			t.Errorf("Base(%d, %d): %q, %d", n, base, units.Text(got), e)
		}
	}
}
