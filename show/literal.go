package show

import (
	"math"
	"strconv"
	"strings"
	"unicode/utf8"

	"lintel/api"
	"lintel/lex"
	"lintel/units"
)

const infinite = "1e309" // the least power of ten that no float reaches

// Literals are written in few bytes, so that a source has room for a tree that a source was read as.

// number is a number literal of x: its digits with a point, or a power of ten, whichever is shorter.
func number(x float64) string {
	if math.IsInf(x, 1) {
		return infinite
	}
	mantissa, exponent, _ := strings.Cut(strconv.FormatFloat(x, 'e', -1, 64), "e")
	digits := strings.Replace(mantissa, ".", "", 1)
	power, _ := strconv.Atoi(exponent)
	power -= len(digits) - 1 // the last digit's, where the exponent is the first one's
	short := digits + "e" + strconv.Itoa(power)
	if plain := plainly(digits, power); len(plain) <= len(short) {
		return plain
	}
	return short
}

// plainly writes digits, of which the last one is worth that power of ten, without a power.
func plainly(digits string, power int) string {
	point := len(digits) + power
	switch {
	case power >= 0:
		return digits + strings.Repeat("0", power)
	case point > 0:
		return digits[:point] + "." + digits[point:]
	}
	return "." + strings.Repeat("0", -point) + digits
}

// text is a text literal of s, with that sign around of which fewer stand within.
func text(s api.Str) string {
	spare(units.Len(s), api.MaxSource)
	quote := '"'
	if shown := units.Text(s); strings.Count(shown, `"`) > strings.Count(shown, "'") {
		quote = '\''
	}
	return string(quote) + escaped(s, quote) + string(quote)
}

// piece is what stands for s within a template.
func piece(s api.Str) string {
	spare(units.Len(s), api.MaxSource)
	return escaped(s, '`')
}

// escaped is what stands for s between two quotes: each code point as it is, unless it would be read as something else.
func escaped(s api.Str, quote rune) string {
	var out strings.Builder
	for at, c := range units.Points(s) {
		switch {
		case c == quote || c == '\\' || quote == '`' && holeAt(s, at):
			out.WriteByte('\\')
			out.WriteRune(c)
		case c == '\r':
			out.WriteString(`\r`)
		case c == '\n' && quote != '`':
			out.WriteString(`\n`)
		case !utf8.ValidRune(c): // a surrogate that stands alone
			out.WriteString(`\u` + strconv.FormatInt(int64(c), 16))
		default:
			out.WriteRune(c)
		}
	}
	return out.String()
}

// holeAt says whether ${ stands at a place.
func holeAt(s api.Str, at int) bool {
	first, _ := units.At(s, at)
	second, _ := units.At(s, at+1)
	return first == '$' && second == '{'
}

// key is how a text is written as a property's key.
func key(s api.Str) string {
	spare(units.Len(s), api.MaxSource)
	if shown := units.Text(s); lex.Name(shown) || lex.Word(shown) {
		return shown
	}
	return text(s)
}
