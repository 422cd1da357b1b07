package digits_test

import (
	"math"
	"math/big"
	"math/rand"
	"regexp"
	"strconv"
	"strings"
	"testing"

	"lintel/api"
	"lintel/digits"
	"lintel/units"
)

// readCase is a text and the number that the document says of it.
type readCase struct {
	text string
	want float64
}

func holdRead(t *testing.T, l []readCase) {
	t.Helper()
	for _, c := range l {
		if x := digits.Read(of(t, c.text)); !alike(x, c.want) {
			t.Errorf("Read(%.80q): %v, not %v", c.text, x, c.want)
		}
	}
}

// P3.3
func TestRead(t *testing.T) {
	holdRead(t, []readCase{
		{"", 0},
		{" ", 0},
		{blanks, 0},
		{"0", 0},
		{"-0", minus0},
		{"+0", 0},
		{"-0.0e5", minus0},
		{"00", 0},
		{"007", 7},
		{"-010", -10},
		{"08.5", 8.5},
		{"12", 12},
		{"+12", 12},
		{"-12", -12},
		{" \n12e1 ", 120},
		{blanks + "-1.5" + blanks, -1.5},
		{"Infinity", inf},
		{"+Infinity", inf},
		{"-Infinity", -inf},
		{" Infinity\n", inf},
		{"1.", 1},
		{".5", 0.5},
		{"-.5", -0.5},
		{"+.5e1", 5},
		{"1.e2", 100},
		{"1.5E+3", 1500},
		{"1.5e-3", 0.0015},
		{"1e0", 1},
		{"1e00002", 100},
		{" 0x1F ", 31},
		{"0XaBc", 2748},
		{"0x0", 0},
		{"0x00001", 1},
		{"0o17", 15},
		{"0O7", 7},
		{"0b101", 5},
		{"0B1", 1},
		{"0e1", 0},
		{"0b1" + strings.Repeat("0", 1023), 0x1p1023},
	})
}

// P3.3
func TestReadWrong(t *testing.T) {
	for _, s := range []string{
		"1 2", "a", "-", "+", ".", "-.", "+ 1", "- 1", "--1", "+-1", "1-", "1+", "1..", "1.2.3", "..1",
		"e5", ".e5", "1e", "1e+", "1e-", "1e 5", "1e5.", "1e1e1", "1e+-1", "1E++1", "e", "1ee1", "1_0", "1,0",
		"-0x1", "+0x1", "-0b1", "0x", "0X", "0o", "0b", "0x1g", "0o8", "0o18", "0b2", "0b12", "0x1.8", "0x-1", "0x 1", "x1", "00x1", "1x1", "0x1p3", "0b1e1",
		"infinity", "INFINITY", "Infinit", "Infinity1", "--Infinity", "- Infinity", "Inf", "+inf", "Infinity.", "0Infinity",
		"NaN", "nan", "-NaN", "null", "true", "1n", "1f", "$", "_", "1\x00", "\x00", "\x001",
		"\u0661", "\uff11", "1\u00e9", "\u200b1", "1\u180e", "\U0001D7CE", "\u0131e1", "\u01311", "\u2212 1",
	} {
		if x := digits.Read(of(t, s)); x == x {
			t.Errorf("Read(%q): %v", s, x)
		}
	}
}

// P3.3: units are no bytes, and half a unit at the end does not count.
func TestReadUnits(t *testing.T) {
	for _, c := range []struct {
		text api.Str
		want float64
	}{
		{"1", 0},
		{"\x001", 1},
		{"\x001\x00", 1},
		{"\x001\x00 \x00", 1},
		{"\x0012", 1},
		{"\x011", nan},
		{"11", nan},
		{"\x000\x01x\x001", nan},
		{"\x001\x01.\x005", nan},
		{"\xd8\x00", nan},
		{"\x001\xdc\x00", nan},
	} {
		if x := digits.Read(c.text); !alike(x, c.want) {
			t.Errorf("Read(%x): %v", c.text, x)
		}
	}
}

// whole is the decimal digits of a number of any size, plus more.
func whole(x float64, more int64) string {
	n, _ := new(big.Float).SetFloat64(x).Int(nil)
	return n.Add(n, big.NewInt(more)).String()
}

// P3.3: the nearest float, of two the even one; beyond the greatest infinity.
func TestReadNearest(t *testing.T) {
	// 2^1024 - 2^970 is half way between the greatest float and the one that there isn't.
	past := new(big.Int).Lsh(big.NewInt(1<<54-1), 970)
	almost := new(big.Int).Sub(past, big.NewInt(1))
	// 2^-1075 is half way between 0 and the least float: it is 5^1075 / 10^1075.
	least := new(big.Int).Exp(big.NewInt(5), big.NewInt(1075), nil).String()
	holdRead(t, []readCase{
		{"9007199254740992", 9007199254740992},
		{"9007199254740993", 9007199254740992},
		{"9007199254740995", 9007199254740996},
		{"9007199254740993." + strings.Repeat("0", 5000), 9007199254740992},
		{"9007199254740993." + strings.Repeat("0", 5000) + "1", 9007199254740994},
		{"9007199254740992." + strings.Repeat("9", 5000), 9007199254740992},
		{"9007199254740993" + strings.Repeat("0", 100) + "1e-101", 9007199254740994},
		{"0.1", 0.1},
		{"0.1000000000000000055511151231257827021181583404541015625", 0.1},
		{"1e23", 1e23},
		{"1e22", 1e22},
		{"123456789012345678901234567890", 123456789012345678901234567890},
		{"1.7976931348623157e308", great},
		{"-1.7976931348623157e308", -great},
		{"1.7976931348623158e308", great},
		{"1.7976931348623159e308", inf},
		{"1e309", inf},
		{"-1e309", -inf},
		{almost.String(), great},
		{almost.String() + "." + strings.Repeat("9", 1000), great},
		{past.String(), inf},
		{"-" + past.String(), -inf},
		{"5e-324", tiny},
		{"3e-324", tiny},
		{"2e-324", 0},
		{"-2e-324", minus0},
		{"2.4703282292062328e-324", tiny},
		{"2.4703282292062327e-324", 0},
		{least + "e-1075", 0},
		{least + "0000000001e-1085", tiny},
		{"-" + least + "e-1075", minus0},
		{"2.2250738585072011e-308", math.Nextafter(0x1p-1022, 0)},
		{"2.2250738585072012e-308", 0x1p-1022},
		{"0x20000000000000", 9007199254740992},
		{"0x20000000000001", 9007199254740992},
		{"0x20000000000003", 9007199254740996},
		{"0x200000000000010000000000000000", 0x20000000000000p64},
		{"0x200000000000010000000000000001", 0x20000000000002p64},
		{"0x20000000000001" + strings.Repeat("0", 100) + "1", 0x20000000000002p404},
		{"0x20000000000000" + strings.Repeat("f", 100), 0x20000000000000p400},
		{"0xffffffffffffffff", 0x1p64},
		{"0xfffffffffffffbff", 0xfffffffffffff8p8},
		{"0xfffffffffffffc00", 0x1p64},
		{"0b" + past.Text(2), inf},
		{"0b" + almost.Text(2), great},
		{"0o" + past.Text(8), inf},
		{"0o" + almost.Text(8), great},
		{"0x" + past.Text(16), inf},
		{"0x" + almost.Text(16), great},
		{"0x1" + strings.Repeat("0", 256), inf},
		{"0x" + strings.Repeat("0", 1000) + "1", 1},
		{"0x" + strings.Repeat("f", 1000), inf},
		{whole(1e30, 1), 1e30},
	})
}

// P3.3: points and powers that make up for one another, however long they are.
func TestReadLong(t *testing.T) {
	const n = 70000
	noughts := strings.Repeat("0", n)
	holdRead(t, []readCase{
		{"0." + noughts + "1e70001", 1},
		{"." + noughts + "15e70002", 15},
		{"-1" + noughts + "e-70000", -1},
		{"1" + noughts + ".5e-70000", 1},
		{"1" + noughts, inf},
		{"-1" + noughts + "e9", -inf},
		{"0." + noughts + "1", 0},
		{"-0." + noughts + "1", minus0},
		{noughts + "7", 7},
		{noughts + "." + noughts, 0},
		{"7." + noughts, 7},
		{"1e" + noughts + "2", 100},
		{"1e-" + noughts + "2", 0.01},
		{"1e99999", inf},
		{"1e-99999", 0},
		{"-1e99999", -inf},
		{"0e99999", 0},
		{"0.000e999999999999999999999999999999", 0},
		{"1e9223372036854775807", inf},
		{"1e9223372036854775808", inf},
		{"1e18446744073709551616", inf},
		{"1e18446744073709551617", inf},
		{"1e-18446744073709551615", 0},
		{"1e-9223372036854775808", 0},
		{"1e-" + strings.Repeat("9", n), 0},
		{"1e" + strings.Repeat("9", n), inf},
		{"1e4294967296", inf},
		{"1e-4294967296", 0},
		{"1e10000", inf},
		{strings.Repeat("9", n) + "e-70000", 1},
		{strings.Repeat("1", n) + "x", nan},
		{"0x" + noughts + "10", 16},
		{"0x" + noughts + "g", nan},
	})
}

// Oracles for P3.3 and P3.4: the document's grammar.
var (
	trimmed = regexp.MustCompile(`^[` + blanks + `]*(|(?s:.*[^` + blanks + `]))[` + blanks + `]*$`)
	byBase  = regexp.MustCompile(`^(0[xX][0-9a-fA-F]+|0[oO][0-7]+|0[bB][01]+)$`)
	endless = regexp.MustCompile(`^[+-]?Infinity$`)
	tenfold = regexp.MustCompile(`^[+-]?(?:([0-9]+)\.?|([0-9]*)\.([0-9]+))(?:[eE]([+-]?[0-9]+))?$`)
	literal = regexp.MustCompile(`^(0[xX][0-9a-fA-F]+|0[oO][0-7]+|0[bB][01]+|((0|[1-9][0-9]*)|(0|[1-9][0-9]*)\.[0-9]*|\.[0-9]+)([eE][+-]?[0-9]+)?)$`)
	behind  = regexp.MustCompile(`^[0-9a-zA-Z$_]`)
)

// readBy is an oracle for P3.3, of texts whose powers are small.
func readBy(s string) float64 {
	s = trimmed.FindStringSubmatch(s)[1]
	switch {
	case s == "":
		return 0
	case endless.MatchString(s):
		return signedBy(s, inf)
	case byBase.MatchString(s):
		n, _ := new(big.Int).SetString(s, 0)
		x, _ := new(big.Rat).SetInt(n).Float64()
		return x
	case tenfold.MatchString(s):
		parts := tenfold.FindStringSubmatch(s)
		power, _ := strconv.Atoi(parts[4])
		n, _ := new(big.Int).SetString(parts[1]+parts[2]+parts[3], 10)
		q := new(big.Rat)
		if power -= len(parts[3]); power < 0 {
			q.SetFrac(n, ten(-power))
		} else {
			q.SetInt(n.Mul(n, ten(power)))
		}
		x, _ := q.Float64()
		return signedBy(s, x)
	}
	return nan
}

// signedBy is x with the sign that s begins with.
func signedBy(s string, x float64) float64 {
	if strings.HasPrefix(s, "-") {
		return -x
	}
	return x
}

// literalBy is an oracle for P3.4.
func literalBy(s string) (float64, int, api.Errno) {
	for n := len(s); n > 0; n-- {
		if !literal.MatchString(s[:n]) {
			continue
		}
		if n < len(s) && (s[n] >= 128 || behind.MatchString(s[n:])) {
			break
		}
		return readBy(s[:n]), n, api.OK
	}
	return 0, 0, api.ErrLiteral
}

// all tells all texts of at most most of some signs.
func all(most int, some []string, tell func(string)) {
	var more func(string, int)
	more = func(s string, left int) {
		tell(s)
		if left == 0 {
			return
		}
		for _, c := range some {
			more(s+c, left-1)
		}
	}
	more("", most)
}

// P3.3, P3.4, P3.8: all short texts
func TestReadAndLiteralOfAll(t *testing.T) {
	hold := func(s string) {
		if x, want := digits.Read(of(t, s)), readBy(s); !alike(x, want) {
			t.Errorf("Read(%q): %v, not %v", s, x, want)
		}
		x, n, e := digits.Literal(s)
		wantX, wantN, wantE := literalBy(s)
		if !alike(x, wantX) || n != wantN || e != wantE {
			t.Errorf("Literal(%q): %v, %d, %d, not %v, %d, %d", s, x, n, e, wantX, wantN, wantE)
		}
		if e == api.OK && !alike(x, digits.Read(of(t, s[:n]))) {
			t.Errorf("Literal(%q): %v, not Read of %q", s, x, s[:n])
		}
	}
	all(6, []string{"0", "7", ".", "e", "-"}, hold)
	all(4, []string{"0", "1", "8", ".", "E", "+", "x", "B", "o", " ", "\u2029"}, hold)
	all(3, []string{"0", "9", "X", "b", "O", "a", "F", "g", "G", "z", "$", "_", "\\", ";", "@", "`", "/", ":", "[", "{", "\n", "\u00a0", "\u00e9", "Infinity"}, hold)
}

// P3.3, P3.4, P3.5: numbers of many digits, held against numbers without bounds
func TestReadMany(t *testing.T) {
	r := rand.New(rand.NewSource(5))
	some := func(most, base int) string {
		var b strings.Builder
		for range r.Intn(most) + 1 {
			b.WriteString(strconv.FormatInt(int64(r.Intn(base)), base))
		}
		return b.String()
	}
	for range 20000 {
		s := some(25, 10) + "." + some(25, 10) + "e" + strconv.Itoa(r.Intn(700)-350)
		if x := digits.Read(of(t, s)); !alike(x, readBy(s)) {
			t.Errorf("Read(%q): %v", s, x)
		}
		s = "1" + s + ";"
		x, n, e := digits.Literal(s)
		wantX, wantN, wantE := literalBy(s)
		if !alike(x, wantX) || n != wantN || e != wantE {
			t.Errorf("Literal(%q): %v, %d, %d", s, x, n, e)
		}
		base := r.Intn(35) + 2
		s = some(1100, base)
		if r.Intn(3) > 0 {
			s = some(30, base)
		}
		want, _ := new(big.Int).SetString(s, base)
		f, _ := new(big.Rat).SetInt(want).Float64()
		if x := digits.Whole(of(t, s), base); !alike(x, f) {
			t.Errorf("Whole(%q, %d): %v, not %v", s, base, x, f)
		}
	}
}

// P3.3: numbers half way between two floats, and a little beside
func TestReadHalfWay(t *testing.T) {
	for i, x := range many() {
		if i%7 != 0 {
			continue
		}
		// A number is scaled by 2^1074 and 10^400: times 5^1074 it is so many of 10^-1474.
		least, _, even := field(x)
		least.Mul(least, new(big.Int).Exp(big.NewInt(5), big.NewInt(1074), nil))
		below := math.Nextafter(x, 0)
		middle := below
		if even {
			middle = x
		}
		for more, want := range []float64{below, middle, x} {
			s := new(big.Int).Add(least, big.NewInt(int64(more-1))).String() + "e-1474"
			if y := digits.Read(of(t, s)); !alike(y, want) {
				t.Errorf("Read(%s): %v, not %v", s, y, want)
			}
		}
	}
}

// P3.4
func TestLiteral(t *testing.T) {
	for _, c := range []struct {
		text string
		want float64
		size int
	}{
		{"1.5e3;", 1500, 5},
		{"0", 0, 1},
		{"0;", 0, 1},
		{"7", 7, 1},
		{"42", 42, 2},
		{"42 ", 42, 2},
		{"42\n7", 42, 2},
		{"1.", 1, 2},
		{"1.)", 1, 2},
		{"1..x", 1, 2},
		{"1.5.x", 1.5, 3},
		{"0.", 0, 2},
		{"0.5", 0.5, 3},
		{"0.05", 0.05, 4},
		{".5", 0.5, 2},
		{".05.5", 0.05, 3},
		{"1.e2", 100, 4},
		{".5e1", 5, 4},
		{"0e7", 0, 3},
		{"0.0E-7", 0, 6},
		{"1e5.x", 100000, 3},
		{"1e+5+", 100000, 4},
		{"1e-2-1", 0.01, 4},
		{"1E5", 100000, 3},
		{"1e5-e", 100000, 3},
		{"0x1F;", 31, 4},
		{"0XfF", 255, 4},
		{"0x1.5", 1, 3},
		{"0xe+1", 14, 3},
		{"0o17", 15, 4},
		{"0O7,", 7, 3},
		{"0b101]", 5, 5},
		{"0B0", 0, 3},
		{"0b1.1", 1, 3},
		{"0x20000000000001", 9007199254740992, 16},
		{"9007199254740993", 9007199254740992, 16},
		{"1e400", inf, 5},
		{"1e-400", 0, 6},
		{"1e99999999999999999999", inf, 22},
		{"0x" + strings.Repeat("f", 300), inf, 302},
		{"1\\u0061", 1, 1},
		{"1#", 1, 1},
		{"1@", 1, 1},
		{"1`", 1, 1},
		{"1\x00", 1, 1},
		{"1\x7f", 1, 1},
		{"10/2", 10, 2},
		{"1:", 1, 1},
	} {
		if x, n, e := digits.Literal(c.text); !alike(x, c.want) || n != c.size || e != api.OK {
			t.Errorf("Literal(%q): %v, %d, %d", c.text, x, n, e)
		}
	}
}

// P3.4
func TestLiteralWrong(t *testing.T) {
	for _, s := range []string{
		"", " ", " 1", "\n1", "a", "-1", "+1", "-", ".", "..5", ".e5", ".x", "e5", "Infinity", "NaN", "$1", "_1", ";",
		"0x", "0X", "0o", "0O", "0b", "0B", "0x;", "0xg", "0x.5", "0o8", "0b2", "0x_1", "0x ",
		"08", "00", "01", "09.5", "00.5", "01e5", "007", "0123", "00x1",
		"0b12", "0b19", "0o78", "0x1g", "0x1fz", "0b1a", "0o7e1", "0b1e1",
		"1a", "1Z", "1z", "1A", "1$", "1_0", "1_", "1n", "1e", "1e+", "1e-", "1e+x", "1E", "1.e", "1.e+", "1.5e", "1.5x", "1.x", "1.$", "1._", "0x1$", "0x1_", "1e5e", "1e5e5", "1e5x", "1e5_",
		"1\u00a0", "1\u00e9", "1\ufeff", "1\u2028", "1.\u00e9", "0x1\u00e9", "1e5\u00e9", "1\x80", "1\xff", "\x80", "\u0661", "1.\xc3",
	} {
		if x, n, e := digits.Literal(s); x != 0 || n != 0 || e != api.ErrLiteral {
			t.Errorf("Literal(%q): %v, %d, %d", s, x, n, e)
		}
	}
}

// P3.5
func TestWhole(t *testing.T) {
	for _, c := range []struct {
		text string
		base int
		want float64
	}{
		{"12px", 10, 12},
		{"12px", 0, 12},
		{"  -12abc", 0, -12},
		{"zz", 36, 1295},
		{"ZZ", 36, 1295},
		{"zZ", 35, nan},
		{"yz", 35, 34},
		{"", 10, nan},
		{" ", 0, nan},
		{"-", 10, nan},
		{"+", 10, nan},
		{"--1", 10, nan},
		{"+-1", 10, nan},
		{"- 1", 10, nan},
		{"+7", 10, 7},
		{"0", 10, 0},
		{"-0", 10, minus0},
		{"-0", 0, minus0},
		{"-0x0", 0, minus0},
		{"-00", 2, minus0},
		{"010", 0, 10},
		{"010", 8, 8},
		{"1.9", 10, 1},
		{"1e3", 10, 1},
		{"1e3", 16, 483},
		{".5", 10, nan},
		{"Infinity", 10, nan},
		{"Infinity", 36, 1461559270678},
		{"null", 36, 1112745},
		{"0x1F", 0, 31},
		{"0X1f", 0, 31},
		{"0x1F", 16, 31},
		{"-0x1F", 16, -31},
		{"+0X1F", 0, 31},
		{" \t-0x1Fz", 0, -31},
		{"0x1F", 10, 0},
		{"0x1F", 15, 0},
		{"0x1F", 36, 42819},
		{"0x", 0, nan},
		{"0x", 16, nan},
		{"0xg", 16, nan},
		{"0x 1", 16, nan},
		{"0x0x1", 16, 0},
		{"00x1", 16, 0},
		{"0", 16, 0},
		{"x1", 16, nan},
		{"0b1", 0, 0},
		{"0b1", 2, 0},
		{"0b1", 16, 177},
		{"0o7", 0, 0},
		{"0o7", 8, 0},
		{"1", 1, nan},
		{"0", 1, nan},
		{"1", -1, nan},
		{"1", 37, nan},
		{"1", -2, nan},
		{"1", -10, nan},
		{"1", 38, nan},
		{"2", 2, nan},
		{"12", 2, 1},
		{"10", 2, 2},
		{"10", 36, 36},
		{"ff", 16, 255},
		{"fg", 16, 15},
		{"9a", 10, 9},
		{"1 2", 10, 1},
		{"1_000", 10, 1},
		{blanks + "5" + blanks, 10, 5},
		{blanks + "-", 10, nan},
		{"\u200b5", 10, nan},
		{"5\u00e9", 10, 5},
		{"\u0665", 10, nan},
		{"1\x00", 10, 1},
		{"9007199254740993", 10, 9007199254740992},
		{"-9007199254740995", 10, -9007199254740996},
		{"123456789012345678901234567890x", 10, 123456789012345678901234567890},
		{"100000000000000000000000", 10, 1e23},
		{"20000000000001", 16, 9007199254740992},
		{strings.Repeat("0", 5000) + "7", 9, 7},
		{strings.Repeat("9", 308), 10, 1e308},
		{strings.Repeat("9", 309), 10, inf},
		{"-" + strings.Repeat("9", 309), 10, -inf},
		{"1" + strings.Repeat("0", 1023), 2, 0x1p1023},
		{"1" + strings.Repeat("0", 1024), 2, inf},
		{"1" + strings.Repeat("0", 100000), 3, inf},
		{strings.Repeat("z", 100000), 36, inf},
	} {
		if x := digits.Whole(of(t, c.text), c.base); !alike(x, c.want) {
			t.Errorf("Whole(%.80q, %d): %v, not %v", c.text, c.base, x, c.want)
		}
	}
}

// P3.5: of a base Int32 counts, whatever is handed over.
func TestWholeBase(t *testing.T) {
	for _, c := range []struct {
		base int
		want float64
	}{
		{1<<32 + 8, 8},
		{1 << 32, 10},
		{-1<<32 + 16, 16},
		{1<<32 + 1, nan},
		{1<<32 - 1, nan},
		{1 << 31, nan},
		{math.MinInt32, nan},
		{math.MaxInt32, nan},
		{math.MinInt, 10},
		{math.MaxInt, nan},
	} {
		if x := digits.Whole(of(t, "10"), c.base); !alike(x, c.want) {
			t.Errorf("Whole(10, %d): %v, not %v", c.base, x, c.want)
		}
	}
}

// P1: any bytes, any numbers
func TestAnything(t *testing.T) {
	r := rand.New(rand.NewSource(6))
	signs := "0123456789abcdefxobXOB+-.eE \t\x00\x20\xfe\xffInfinity"
	for range 50000 {
		b := make([]byte, r.Intn(12))
		for i := range b {
			b[i] = signs[r.Intn(len(signs))]
			if r.Intn(8) == 0 {
				b[i] = byte(r.Intn(256))
			}
		}
		s := api.Str(b)
		digits.Read(s)
		digits.Whole(s, r.Intn(50)-5)
		if x, n, e := digits.Literal(string(b)); e != api.OK && (x != 0 || n != 0) || e == api.OK && (n < 1 || n > len(b)) {
			t.Errorf("Literal(%q): %v, %d, %d", b, x, n, e)
		}
		if got := digits.Trim(s); len(got) > len(s) || digits.Trim(got) != got {
			t.Errorf("Trim(%x): %x", s, got)
		}
		x := math.Float64frombits(r.Uint64())
		if s, e := digits.Base(x, int(r.Uint64())); e != api.OK && s != "" {
			t.Errorf("Base(%v): %x, %d", x, s, e)
		}
		if units.Len(digits.Show(x)) == 0 {
			t.Errorf("Show(%v)", x)
		}
	}
}
