package code_test

import (
	"math"
	"strconv"
	"strings"
	"testing"

	"lintel/api"
	"lintel/code"
)

// consts are constants of each kind that Show meets: by k and s alike.
var consts = []api.Value{
	{Kind: api.Text, Str: "\x00a\x00\"\x00\\\x20\xac\x00\n\xd8\x00"}, {Kind: api.Number, Num: 1.5}, {Kind: api.Text}, {Kind: api.Number, Num: math.Copysign(0, -1)},
	{Kind: api.Number, Num: math.NaN()}, {Kind: api.Number, Num: math.Inf(-1)}, {Kind: api.Number, Num: 1e21}, {Kind: api.Text, Str: "\x00ab"},
	{}, {Kind: api.Bool, Num: 1}, {Kind: api.Object, Ref: 3}, {Kind: 7},
}

// shown is how they are shown.
var shown = []string{`"a\"\\\u20ac\u000a\ud800"`, "1.5", `""`, "0", "NaN", "-Infinity", "1e+21", `"a"`, "?", "?", "?", "?"}

// P11.4
func TestShow(t *testing.T) {
	for _, x := range []struct {
		name string
		f    api.Fn
		want string
	}{
		{"the document's", api.Fn{Code: []api.Ins{{Op: api.OpLoad}, {Op: api.OpReturn}}}, "0 Load r0 0\n1 Return r0\n"},
		{"nothing", api.Fn{}, ""},
		{"nothing but constants", api.Fn{Name: "\x00f", Consts: consts, Tries: []api.Try{{}}, Caps: []api.Capture{{}}}, ""},
		{"each letter", api.Fn{Consts: consts, Code: []api.Ins{
			{Op: api.OpSame, A: 1, B: 2, C: 3}, {Op: api.OpConst, A: 4, B: 1}, {Op: api.OpAssign, A: 2, B: 5}, {Op: api.OpClosure, A: 6, B: 7},
			{Op: api.OpUp, A: 8, B: 9}, {Op: api.OpUpSet, A: 10, B: 11}, {Op: api.OpCall, A: 12, B: 13, C: 14, D: 15}, {Op: api.OpJump, A: 16},
		}}, "0 Same r1 2 @3\n1 Const r4 1.5\n2 Assign \"\" r5\n3 Closure r6 7\n4 Up r8 9\n5 UpSet 10 r11\n6 Call r12 r13 r14 r15\n7 Jump @16\n"},
		{"operands that there aren't", api.Fn{Code: []api.Ins{{Op: api.OpThis, A: 1, B: 2, C: 3, D: 4}, {Op: api.MaxOp, A: 1, B: 2, C: 3, D: 4}}}, "0 This r1\n1 instanceof r1 r2 r3\n"},
		{"numbers below 0", api.Fn{Consts: consts, Code: []api.Ins{{Op: api.OpLoad, A: -1, B: -2}, {Op: api.OpIf, A: -3, B: -4}, {Op: api.OpConst, B: -1}, {Op: api.OpFixed, A: math.MinInt}, {Op: api.OpClosure, B: math.MinInt}}}, "0 Load r-1 -2\n1 If r-3 @-4\n2 Const r0 ?\n3 Fixed ?\n4 Closure r0 -9223372036854775808\n"},
		{"constants past the end", api.Fn{Consts: consts[:1:1], Code: []api.Ins{{Op: api.OpConst, B: 1}, {Op: api.OpAsk, B: math.MaxInt}}}, "0 Const r0 ?\n1 Ask r0 ?\n"},
		{"constants behind the length", api.Fn{Consts: consts[:1], Code: []api.Ins{{Op: api.OpConst, B: 1}}}, "0 Const r0 ?\n"},
		{"no constants", api.Fn{Code: []api.Ins{{Op: api.OpGlobal}}}, "0 Global r0 ?\n"},
	} {
		if got := code.Show(x.f); got != x.want {
			t.Errorf("%s: %q, not %q", x.name, got, x.want)
		}
	}
}

// P11.4: constants as they are, by k and s alike.
func TestShowConstants(t *testing.T) {
	for i, want := range shown {
		f := api.Fn{Consts: consts, Code: []api.Ins{{Op: api.OpConst, B: i}, {Op: api.OpTry, B: i}, {Op: api.OpAssign, A: i}}}
		if got := code.Show(f); got != "0 Const r0 "+want+"\n1 Try r0 "+want+"\n2 Assign "+want+" r0\n" {
			t.Errorf("%v: %q", consts[i], got)
		}
	}
}

// P11.4: each instruction, in one function, with lines whose numbers have more than one digit.
func TestShowAll(t *testing.T) {
	var f api.Fn
	var want strings.Builder
	signs := map[rune]string{'r': "r", 't': "@"}
	f.Consts = consts[:2]
	for _, r := range rows(t) {
		f.Code = append(f.Code, api.Ins{Op: r.op, A: 100, B: 101, C: 102, D: 103})
		want.WriteString(strconv.Itoa(r.op) + " " + r.name)
		for n, letter := range r.operands {
			if letter == 'k' || letter == 's' {
				want.WriteString(" ?")
			} else {
				want.WriteString(" " + signs[letter] + strconv.Itoa(100+n))
			}
		}
		want.WriteString("\n")
	}
	if got := code.Show(f); got != want.String() {
		t.Errorf("%s, not\n%s", got, want.String())
	}
	for _, op := range strange {
		if got := code.Show(api.Fn{Code: []api.Ins{{Op: op, A: 1, B: 2, C: 3, D: 4}, {}}}); got != "0 ?\n1 Load r0 0\n" {
			t.Errorf("Op %d: %q", op, got)
		}
	}
}
