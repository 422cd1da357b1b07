package code_test

import (
	"math"
	"slices"
	"strconv"
	"strings"
	"testing"

	"lintel/api"
	"lintel/code"
	"lintel/tree"
)

// table is the document's: numbers, names, operands; the operators between two registers by their signs.
const table = `0 Load rn|1 Const rk|2 Move rr|3 This r|4 Callee r|5 Global rs|6 Try rs|7 Assign sr|8 Cell rr|9 Peek rr|10 Poke rr|
11 Up ru|12 UpSet ur|13 Ask rs|14 Fixed s|15 Closure rf|16 Jump t|17 If rt|18 Not rt|19 Same rnt|20 Object r|21 Array r|22 List r|
23 Push rr|24 Spread rr|25 Put rrr|26 Getter rrr|27 Setter rrr|28 Get rrr|29 Set rrr|30 Delete rrr|31 Key rr|32 Call rrrr|33 New rrr|
34 Return r|35 Throw r|36 Keys rr|37 Next rrt|38 Iter rr|39 Step rrt|40 Close r|41 Quiet r|42 Text rr|43 Done r|44 Plus rr|45 Minus rr|
46 Flip rr|47 Bang rr|48 Type rr`

const signs = "+ - * / % ** << >> >>> & | ^ < > <= >= == != === !== in instanceof"

// row is what the document says of an instruction.
type row struct {
	op             int
	name, operands string
}

// rows are the document's table, whole.
func rows(t *testing.T) []row {
	t.Helper()
	var out []row
	for _, line := range strings.Split(table, "|") {
		words := strings.Fields(line)
		op, err := strconv.Atoi(words[0])
		if err != nil || op != len(out) {
			t.Fatalf("%q", line)
		}
		out = append(out, row{op, words[1], words[2]})
	}
	for _, sign := range strings.Fields(signs) {
		out = append(out, row{len(out), sign, "rrr"})
	}
	return out
}

// strange are numbers of no instruction.
var strange = []int{-1, -2, api.MaxOp + 1, api.MaxOp + 2, 128, 1 << 32, math.MaxInt, math.MinInt}

// P11.1
func TestTable(t *testing.T) {
	all := rows(t)
	if len(all) != api.MaxOp+1 {
		t.Fatal(len(all))
	}
	for _, r := range all {
		if got := code.Operands(r.op); got != r.operands {
			t.Errorf("Operands(%d): %q, not %q", r.op, got, r.operands)
		}
		if got := code.Name(r.op); got != r.name {
			t.Errorf("Name(%d): %q, not %q", r.op, got, r.name)
		}
	}
	for _, op := range strange {
		if code.Operands(op) != "" || code.Name(op) != "" {
			t.Errorf("%d: %q, %q", op, code.Name(op), code.Operands(op))
		}
	}
}

// P11.1: operators between two registers stand in the order in which trees have them.
func TestOperators(t *testing.T) {
	var got []string
	for op := api.OpBinary; op <= api.MaxOp; op++ {
		got = append(got, code.Name(op))
	}
	if !slices.Equal(got, tree.Operators(api.NodeBinary)) {
		t.Error(got)
	}
}
