package code

import (
	"strconv"
	"strings"

	"lintel/api"
	"lintel/digits"
	"lintel/lex"
	"lintel/units"
)

// none stands for a name or a constant that there isn't.
const none = "?"

// Show: P11.4.
func Show(f api.Fn) string {
	var out strings.Builder
	for at, i := range f.Code {
		out.WriteString(strconv.Itoa(at))
		out.WriteByte(' ')
		if isOp(i.Op) {
			out.WriteString(Name(i.Op))
		} else {
			out.WriteString(none)
		}
		all := operands(i)
		for n, letter := range Operands(i.Op) {
			out.WriteByte(' ')
			out.WriteString(shownOperand(f.Consts, letter, all[n]))
		}
		out.WriteByte('\n')
	}
	return out.String()
}

// shownOperand is a number as its letter says.
func shownOperand(consts []api.Value, letter rune, n int) string {
	switch letter {
	case 'r':
		return "r" + strconv.Itoa(n)
	case 't':
		return "@" + strconv.Itoa(n)
	case 'k', 's':
		return shownConstant(consts, n)
	}
	return strconv.Itoa(n)
}

func shownConstant(consts []api.Value, n int) string {
	if n < 0 || n >= len(consts) {
		return none
	}
	switch v := consts[n]; v.Kind {
	case api.Number:
		return units.Text(digits.Show(v.Num))
	case api.Text:
		return lex.Quote(v.Str)
	}
	return none
}
