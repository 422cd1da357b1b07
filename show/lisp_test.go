package show_test

import (
	"bytes"
	"fmt"
	"math"
	"math/rand"
	"regexp"
	"slices"
	"strconv"
	"strings"
	"testing"
	"unicode/utf16"
	"unsafe"

	"lintel/api"
	"lintel/digits"
	"lintel/show"
	"lintel/tree"
	"lintel/units"
)

// P7.1, P7.2, P7.3: the document's examples.
func TestExamples(t *testing.T) {
	if s, e := show.Lisp(treeOf(t, "1;")); s != "(55 (37 (1 1)))" || e != api.OK {
		t.Error(s, e)
	}
	if l, at, e := show.Read("(55 (37 (1 x)))"); len(l) != 0 || at != 0 || e != api.ErrLisp {
		t.Error(l, at, e)
	}
	if l, at, e := show.Read("(1 1)"); len(l) != 0 || at != 0 || e != api.ErrTree {
		t.Error(l, at, e)
	}
	if s, e := show.Source(treeOf(t, "1;")); e != api.OK || drawn(treeOf(t, s)) != drawn(treeOf(t, "1")) {
		t.Error(s, e)
	}
}

// P7.2: each field as the document has it, in order.
func TestLisp(t *testing.T) {
	for _, c := range []struct {
		n    api.Node
		want string
	}{
		{api.Node{Kind: api.NodeNum}, "(1 0)"},
		{api.Node{Kind: api.NodeNum, Num: 1.5, At: 7}, "(1 1.5 @7)"},
		{api.Node{Kind: api.NodeNum, Num: 1e21}, "(1 1e+21)"},
		{api.Node{Kind: api.NodeNum, Num: 1e-7}, "(1 1e-7)"},
		{api.Node{Kind: api.NodeNum, Num: 5e-324}, "(1 5e-324)"},
		{api.Node{Kind: api.NodeNum, Num: 123456789012345680000}, "(1 123456789012345680000)"},
		{api.Node{Kind: api.NodeNum, Num: math.Inf(1)}, "(1 Infinity)"},
		{api.Node{Kind: api.NodeStr}, `(2 "")`},
		{api.Node{Kind: api.NodeStr, Str: of("a b\"'\\/`\n\t~\x7f\x00"), At: 1}, `(2 "a b\"'\\/` + "`" + `\u000a\u0009~\u007f\u0000" @1)`},
		{api.Node{Kind: api.NodeStr, Str: of("\u00e9\u20ac\U0001F600")}, `(2 "\u00e9\u20ac\ud83d\ude00")`},
		{api.Node{Kind: api.NodeStr, Str: "\xd8\x00"}, `(2 "\ud800")`},
		{api.Node{Kind: api.NodeStr, Str: "\x00(\x00)\x00@"}, `(2 "()@")`},
		{api.Node{Kind: api.NodeStr, Str: "\x00ab"}, `(2 "a")`},
		{api.Node{Kind: api.NodeStr, Str: "a"}, `(2 "")`},
		{api.Node{Kind: api.NodeName, Text: "$_a1"}, `(6 "$_a1")`},
		{api.Node{Kind: api.NodeName, Text: "of", At: math.MaxInt}, `(6 "of" @9223372036854775807)`},
		{api.Node{Kind: api.NodeThis}, "(7)"},
		{api.Node{Kind: api.NodeTrue, At: 10}, "(3 @10)"},
		{api.Node{Kind: api.NodeArray, At: 10}, "(8 @10)"},
	} {
		l := one(c.n)
		if s, e := show.Lisp(l); s != "(55 (37 "+c.want+"))" || e != api.OK {
			t.Errorf("%v: %s, %d, not %s", c.n, s, e, c.want)
		}
	}
	for src, want := range map[string]string{
		"":                   "(55)",
		";":                  "(55 (36))",
		"let a=1,b":          `(55 (33 (35 "a" (1 1)) (35 "b")))`,
		"a.if+(-b)":          `(55 (37 (22 "+" (17 "if" (6 "a")) (19 "-" (6 "b")))))`,
		"f(...a,'x')":        `(55 (37 (15 (6 "f") (29 (6 "a")) (2 "x"))))`,
		"function f(...a){}": `(55 (53 "f" (30 (31 "a")) (32)))`,
		"for(;;);":           `(55 (39 (54) (54) (54) (36)))`,
		"try{}finally{}":     `(55 (48 (32) (54) (32)))`,
		"`a${b}`":            `(55 (37 (28 (2 "a") (6 "b") (2 ""))))`,
		"a>>>=b":             `(55 (37 (26 ">>>=" (6 "a") (6 "b"))))`,
		"a:break a":          `(55 (52 "a" (44 "a")))`,
	} {
		if s, e := show.Lisp(treeOf(t, src)); s != want || e != api.OK {
			t.Errorf("%s: %s, %d, not %s", src, s, e, want)
		}
	}
}

// P7.2, P4: what is no tree.
func TestLispOfNoTree(t *testing.T) {
	for _, c := range wrong() {
		if s, e := show.Lisp(c.l); s != "" || e != c.e {
			t.Errorf("%s: %q, %d", c.name, s, e)
		}
	}
}

// quoteBy is an oracle for a text in quotes.
func quoteBy(s api.Str) string {
	out := ""
	for i := 0; i+1 < len(s); i += 2 {
		switch u := uint16(s[i])<<8 | uint16(s[i+1]); {
		case u == '"' || u == '\\':
			out += `\` + string(rune(u))
		case u > 126 || u < 32:
			out += fmt.Sprintf(`\u%04x`, u)
		default:
			out += string(rune(u))
		}
	}
	return `"` + out + `"`
}

// lispBy is an oracle for Lisp, from node n on.
func lispBy(l []api.Node, n int) string {
	parts := []string{fmt.Sprint(l[n].Kind)}
	if l[n].Text != "" {
		parts = append(parts, quoteBy(of(l[n].Text)))
	}
	if l[n].Kind == api.NodeStr {
		parts = append(parts, quoteBy(l[n].Str))
	}
	if l[n].Kind == api.NodeNum {
		parts = append(parts, units.Text(digits.Show(l[n].Num)))
	}
	if l[n].At != 0 {
		parts = append(parts, fmt.Sprintf("@%d", l[n].At))
	}
	for _, k := range l[n].Kids {
		parts = append(parts, lispBy(l, k))
	}
	return "(" + strings.Join(parts, " ") + ")"
}

// ordered is a tree with its nodes kids first, in order.
func ordered(l []api.Node) []api.Node {
	var out []api.Node
	var lay func(n int) int
	lay = func(n int) int {
		k := l[n]
		k.Kids = nil
		for _, i := range l[n].Kids {
			k.Kids = append(k.Kids, lay(i))
		}
		out = append(out, k)
		return len(out) - 1
	}
	lay(len(l) - 1)
	return out
}

// shuffled is a tree with other numbers of its nodes.
func shuffled(r *rand.Rand, l []api.Node) []api.Node {
	numbers := make([]int, len(l))
	placed := make([]bool, len(l))
	var out []api.Node
	for len(out) < len(l) {
		i := r.Intn(len(l))
		if placed[i] || slices.ContainsFunc(l[i].Kids, func(k int) bool { return !placed[k] }) {
			continue
		}
		n := l[i]
		n.Kids = nil
		for _, k := range l[i].Kids {
			n.Kids = append(n.Kids, numbers[k])
		}
		placed[i], numbers[i] = true, len(out)
		out = append(out, n)
	}
	return out
}

// alike says whether two lists are alike, places and all.
func alike(a, b []api.Node) bool {
	return tree.Same(a, b) && slices.EqualFunc(a, b, func(x, y api.Node) bool { return x.At == y.At })
}

// P7.2, P7.3, P7.4: trees as they come, there and back.
func TestThereAndBack(t *testing.T) {
	r := rand.New(rand.NewSource(74))
	for range 8000 {
		l := shuffled(r, someTree(r, r.Intn(5)))
		s, e := show.Lisp(l)
		if want := lispBy(l, len(l)-1); s != want || e != api.OK {
			t.Fatalf("Lisp: %s, %d, not %s", s, e, want)
		}
		m, at, e := show.Read(s)
		if at != 0 || e != api.OK || !alike(m, ordered(l)) {
			t.Fatalf("Read(%s): %v, %d, %d", s, m, at, e)
		}
		if again, e := show.Lisp(m); again != s || e != api.OK {
			t.Fatalf("Lisp: %s, %d, not %s", again, e, s)
		}
	}
}

// P7.3: what is no nodes.
func TestReadWrong(t *testing.T) {
	for _, s := range []string{
		"", " ", "(", ")", "()", "( )", "55", "(55", "55)", "(55))", "(55) ", " (55)", "(55 )", "( 55)", "(55)(55)", "(55) (55)", "(55(36))", "(55  (36))", "(55 (36) )", "(55 (36)", "(55\n(36))", "(55\t(36))", "(55,(36))", "(55 36)",
		"(055)", "(+55)", "(-1)", "(-0)", "(5 5)", "(5.0)", "(0x37)", "(55a)", "(a)", "(9223372036854775808)", "(99999999999999999999999)", "(\u0665)", "(5\xff)",
		"(1)", "(1 )", "(1 x)", "(1 01)", "(1 1.0)", "(1 .5)", "(1 1.)", "(1 1e21)", "(1 1E+21)", "(1 1e+20)", "(1 100000000000000000000000)", "(1 -1)", "(1 -0)", "(1 +1)", "(1 NaN)", "(1 -Infinity)", "(1 infinity)", "(1 0x1)", "(1 1 1)", "(1 0.1000)",
		"(1 0.1000000000000000055)", "(1 1e400)", "(1 \"1\")", "(1 @1)", "(1 @1 1)", "(1 1 \"a\")", "(1 \"\" 1)", "(1  1)", "(1 \u00a01)", "(1 1\t)", "(1 (36))", "(1 1e-6)", "(1 1e+309)", "(1 0e+0)",
		"(2)", "(2 )", "(2 a)", "(2 'a')", "(2 @1)", "(2 \"a)", "(2 a\")", "(2 \"a\"b)", "(2 \"a\" )", "(2 \"\" \"\")", "(2 \"\" \"a\")", "(2 \"a\" \"b\" \"c\")", "(2 \"a\"\"b\")", "(2 @1 \"a\")", "(2 \"a\" @1 \"b\")", "(2 \"a\" 1)",
		"(2 \"\\ud800\" \"a\")", "(2 \"\\udc00\\ud800\" \"a\")", "(2 \"\\n\")", "(2 \"\\u000A\")", "(2 \"\\u00E9\")", "(2 \"\\U000a\")", "(2 \"\\u0041\")", "(2 \"\\u0022\")", "(2 \"\\u005c\")", "(2 \"\\u007e\")", "(2 \"\\u0020\")", "(2 \"\\x00\")", "(2 \"\\0\")",
		"(2 \"\\'\")", "(2 \"\\a\")", "(2 \"\\u{a}\")", "(2 \"\\u00a\")", "(2 \"\\u00a\"00)", "(2 \"\\u\")", "(2 \"\\u+00a\")", "(2 \"\\u0_0a\")", "(2 \"\n\")", "(2 \"\x7f\")", "(2 \"\t\")", "(2 \"\u00e9\")", "(2 \"\xff\")", "(2 \"\\\")", "(2 \"\\\\\\\")", "(2 \"\x00\")",
		"(6 \"\")", "(6 a)", "(6 \"a\" \"b\")", "(6 \"a\" 1)", "(6 1)", "(6 1 \"a\")", "(6 \"\\ud800\")", "(6 \"a\\udfff\")", "(6 \"\\udc00\\ud800\")", "(6 \"\\ud83d\\ud83d\\ude00\")", "(6 \"a\"(36))", "(55 (36) \"a\")", "(55 (36) @1)", "(55 @1 @2)",
		"(7 @0)", "(7 @)", "(7 @01)", "(7 @-1)", "(7 @+1)", "(7 @1.0)", "(7 @ 1)", "(7@1)", "(7 @9223372036854775808)", "(7 @1 \"a\")", "(7 @1(36))", "(7 @1 )", "(7 @x)",
		"(3 1)", "(3 x)", "(54 Infinity)", "(55 (37 (1 x)))", "(55 (37 (6 \"a\")))x", "[55]", "(55 [36])", "{55}", "(55 (36)))", "((55))", "(55 ())", "(55 (36) 36)",
	} {
		if l, at, e := show.Read(s); len(l) != 0 || at != 0 || e != api.ErrLisp {
			t.Errorf("Read(%q): %v, %d, %d", s, l, at, e)
		}
		if _, _, e := readBy(s); e != api.ErrLisp {
			t.Errorf("the oracle of %q: %d", s, e)
		}
	}
}

// P7.3: what is nodes, but no tree: the place and error that tree.Check has of them, kids first.
func TestReadNoTree(t *testing.T) {
	for _, c := range []struct {
		s  string
		at int
	}{
		{"(1 1)", 0}, {"(36)", 0}, {"(0)", 0}, {"(57)", 0}, {"(9223372036854775807)", 0}, {"(0 (0))", 0}, {"(55 (55))", 1}, {"(55 (36) (1 1))", 2}, {"(55 (1 1) (36))", 2},
		{"(1 \"a\" 1)", 0}, {"(2 \"a\" \"b\")", 0}, {"(2 \"a\" \"\")", 0}, {"(2 \"\\u00e9\" \"\\ud800\")", 0}, {"(1 Infinity)", 0}, {"(1 1 (36))", 1}, {"(2 \"\" (36))", 1}, {"(7 \"a\")", 0}, {"(6)", 0}, {"(6 \"let\")", 0},
		{"(6 \"\\u00e9\")", 0}, {"(6 \"\\ud83d\\ude00\")", 0}, {"(6 \"a b\")", 0}, {"(6 \"\\\"\")", 0}, {"(55 \"a\")", 0}, {"(54 @9223372036854775807)", 0},
		{"(55 (37 (22 \"+\" (1 1) (6 \"if\"))))", 1}, {"(55 (37 (22 \"+\" (6 \"a\") (1 1 @5) (1 2))))", 3}, {"(55 (36) (37 (26 \"=\" (1 1) (1 2))) (99))", 3}, {"(55 (37 (22 \"and\" (1 1) (1 2))))", 2}, {"(32 (36))", 1},
	} {
		if l, at, e := show.Read(c.s); len(l) != 0 || at != c.at || e != api.ErrTree {
			t.Errorf("Read(%q): %v, %d, %d", c.s, l, at, e)
		}
		if _, at, e := readBy(c.s); at != c.at || e != api.ErrTree {
			t.Errorf("the oracle of %q: %d, %d", c.s, at, e)
		}
	}
}

const (
	plainForm   = `[ !#-\[\]-~]|\\["\\]`
	controlForm = `\\u00[01][0-9a-f]|\\u007f|\\u00[89a-f][0-9a-f]|\\u0[1-9a-f][0-9a-f]{2}`
	otherForm   = `\\u[1-9a-ce-f][0-9a-f]{3}|\\ud[0-7][0-9a-f]{2}`
	pairForm    = `\\ud[89ab][0-9a-f]{2}\\ud[c-f][0-9a-f]{2}`
	wholeForm   = `0|[1-9][0-9]*`
)

var (
	anyText   = regexp.MustCompile(`"(?:[^"\\]|\\.)*"`)
	unitsText = regexp.MustCompile(`^"(?:` + plainForm + `|` + controlForm + `|` + otherForm + `|\\ud[89a-f][0-9a-f]{2})*"$`)
	utf8Text  = regexp.MustCompile(`^"(?:` + plainForm + `|` + controlForm + `|` + otherForm + `|` + pairForm + `)+"$`)
	nodeForm  = regexp.MustCompile(`^\((` + wholeForm + `)((?: '\d+')*)( [0-9eI.][0-9a-zI.+-]*)?(?: @([1-9][0-9]*))?((?: #\d+#)*)\)$`)
	kidForm   = regexp.MustCompile(`\d+`)
)

// textBy is the units that a literal stands for.
func textBy(literal string) api.Str {
	var l []uint16
	for s := literal[1 : len(literal)-1]; s != ""; {
		size := 1
		switch {
		case strings.HasPrefix(s, `\u`):
			u, _ := strconv.ParseUint(s[2:6], 16, 16)
			l = append(l, uint16(u))
			size = 6
		case s[0] == '\\':
			l = append(l, uint16(s[1]))
			size = 2
		default:
			l = append(l, utf16.Encode([]rune(s[:1]))...)
		}
		s = s[size:]
	}
	return units.Make(l)
}

// readBy is an oracle for Read: the innermost node that is closed first is cut out, and its number put
// in its place, till one is left.
func readBy(s string) ([]api.Node, int, api.Errno) {
	if len(s) > api.MaxLisp {
		return nil, 0, api.ErrLong
	}
	if strings.ContainsAny(anyText.ReplaceAllString(s, ""), "'#") {
		return nil, 0, api.ErrLisp
	}
	var texts []string
	s = anyText.ReplaceAllStringFunc(s, func(x string) string {
		texts = append(texts, x)
		return fmt.Sprintf("'%d'", len(texts)-1)
	})
	var l []api.Node
	for {
		shut := strings.Index(s, ")")
		open := strings.LastIndex(s[:shut+1], "(")
		if open < 0 {
			break
		}
		n, ok := nodeBy(s[open:shut+1], texts)
		if !ok {
			return nil, 0, api.ErrLisp
		}
		s = fmt.Sprintf("%s#%d#%s", s[:open], len(l), s[shut+1:])
		l = append(l, n)
	}
	if len(l) == 0 || s != fmt.Sprintf("#%d#", len(l)-1) {
		return nil, 0, api.ErrLisp
	}
	if at, e := tree.Check(l); e != api.OK {
		return nil, at, e
	}
	return l, 0, api.OK
}

// nodeBy is a node whose texts and kids are put as numbers.
func nodeBy(s string, texts []string) (n api.Node, ok bool) {
	m := nodeForm.FindStringSubmatch(s)
	if m == nil {
		return n, false
	}
	kind, err := strconv.Atoi(m[1])
	at, err2 := strconv.Atoi("0" + m[4])
	if err != nil || err2 != nil {
		return n, false
	}
	n.Kind, n.At = kind, at
	var some []string
	for _, i := range kidForm.FindAllString(m[2], -1) {
		k, _ := strconv.Atoi(i)
		some = append(some, texts[k])
	}
	if n.Kind == api.NodeStr {
		if len(some) == 0 || !unitsText.MatchString(some[len(some)-1]) {
			return n, false
		}
		n.Str = textBy(some[len(some)-1])
		some = some[:len(some)-1]
	}
	if len(some) > 1 || len(some) == 1 && !utf8Text.MatchString(some[0]) {
		return n, false
	}
	if len(some) == 1 {
		n.Text = units.Text(textBy(some[0]))
	}
	if (n.Kind == api.NodeNum) != (m[3] != "") {
		return n, false
	}
	if n.Kind == api.NodeNum {
		n.Num, _ = strconv.ParseFloat(m[3][1:], 64)
		if !(n.Num >= 0) || " "+units.Text(digits.Show(n.Num)) != m[3] {
			return n, false
		}
	}
	for _, i := range kidForm.FindAllString(m[5], -1) {
		k, _ := strconv.Atoi(i)
		n.Kids = append(n.Kids, k)
	}
	return n, true
}

// holdRead holds Read against the oracle.
func holdRead(t *testing.T, s string) api.Errno {
	t.Helper()
	l, at, e := show.Read(s)
	want, wantAt, wantE := readBy(s)
	if at != wantAt || e != wantE || !alike(l, want) {
		t.Fatalf("Read(%q): %v, %d, %d, not %v, %d, %d", s, l, at, e, want, wantAt, wantE)
	}
	if e == api.OK {
		if again, e := show.Lisp(l); again != s || e != api.OK {
			t.Fatalf("Lisp: %s, %d, not %s", again, e, s)
		}
	}
	return e
}

// P7.3, P7.4: texts that are, and texts that differ from them by little.
func TestReadEdits(t *testing.T) {
	count := map[api.Errno]int{}
	more := []string{"(", ")", "\"", " ", "@", "0", "1", "9", ".", "\\", "u", "a", "d", "-", "+", "e", "\n", "x", "\u00e9", "\x00", "#", "'", " (36)", " \"a\"", " @1", " 1", "\\u00e9", "\\ud800", "\\udc00"}
	for _, s := range []string{
		"(55)", "(55 (36))", "(55 (37 (1 1)))", "(55 (37 (1 1.5 @7) @2) (36) @1)", "(55 (37 (1 1e+21)))", "(55 (37 (1 Infinity)))", "(55 (37 (2 \"\")))", "(55 (37 (2 \"a(\\\"\\\\\\u000a\\ud800)\" @3)))",
		"(55 (33 (35 \"a\" (22 \"+\" (6 \"b\" @3) (2 \"c\"))) (35 \"of\")))", "(2 \"\\ud83d\\ude00\" \"\\udc00\\ud800\")",
	} {
		count[holdRead(t, s)]++
		for i := range len(s) + 1 {
			count[holdRead(t, s[:i])]++
			for _, m := range more {
				count[holdRead(t, s[:i]+m+s[i:])]++
				if i < len(s) {
					count[holdRead(t, s[:i]+m+s[i+1:])]++
				}
			}
			for j := i + 1; j <= min(i+8, len(s)); j++ {
				count[holdRead(t, s[:i]+s[j:])]++
			}
		}
	}
	if count[api.OK] < 100 || count[api.ErrTree] < 100 || count[api.ErrLisp] < 1000 {
		t.Error(count)
	}
}

// P7.3: all short texts of a node's parts.
func TestReadOfAll(t *testing.T) {
	parts := []string{"(", ")", "55", "1", "2", " ", "\"", "a", "@", "(36)"}
	var grow func(s string, left int)
	grow = func(s string, left int) {
		holdRead(t, s)
		if left > 0 {
			for _, p := range parts {
				grow(s+p, left-1)
			}
		}
	}
	grow("", 3)
	grow("(", 5)
	grow("(55 (37 (1 ", 3)
	grow("(55 (37 (2 \"", 3)
}

// P7.2, P7.3: MaxLisp.
func TestLispLong(t *testing.T) {
	frame := len(`(55 (37 (2 "")))`)
	letters := strings.Repeat("a", api.MaxLisp-frame)
	l := one(api.Node{Kind: api.NodeStr, Str: of(letters)})
	s, e := show.Lisp(l)
	if len(s) != api.MaxLisp || e != api.OK {
		t.Fatal(len(s), e)
	}
	if m, at, e := show.Read(s); at != 0 || e != api.OK || !tree.Same(m, l) {
		t.Error(len(m), at, e)
	}
	if m, at, e := show.Read(s + ")"); len(m) != 0 || at != 0 || e != api.ErrLong {
		t.Error(len(m), at, e)
	}
	name := len(`(55 (37 (6 "")))`)
	for _, c := range []struct {
		l    []api.Node
		want api.Errno
	}{
		{one(api.Node{Kind: api.NodeStr, Str: of(letters + "a")}), api.ErrLong},
		{one(api.Node{Kind: api.NodeStr, Str: of(letters + letters)}), api.ErrLong},
		{one(api.Node{Kind: api.NodeStr, Str: of(letters[1:] + "\"")}), api.ErrLong},
		{one(api.Node{Kind: api.NodeStr, Str: of(letters[1:]), At: 1}), api.ErrLong},
		{one(api.Node{Kind: api.NodeStr, Str: of(letters[3:]), At: 1}), api.OK},
		{one(api.Node{Kind: api.NodeStr, Str: of(strings.Repeat("\u20ac", len(letters)/6))}), api.OK},
		{one(api.Node{Kind: api.NodeStr, Str: of(strings.Repeat("\u20ac", len(letters)/6+1))}), api.ErrLong},
		{one(api.Node{Kind: api.NodeName, Text: strings.Repeat("a", api.MaxLisp-name)}), api.OK},
		{one(api.Node{Kind: api.NodeName, Text: strings.Repeat("a", api.MaxLisp-name+1)}), api.ErrLong},
		{one(api.Node{Kind: api.NodeName, Text: strings.Repeat("a", 3*api.MaxLisp)}), api.ErrLong},
	} {
		s, e := show.Lisp(c.l)
		if e != c.want || (s == "") != (e != api.OK) {
			t.Errorf("%d bytes, error %d, not %d", len(s), e, c.want)
		}
	}
	empty := make([]api.Node, api.MaxNodes)
	last := &empty[api.MaxNodes-1]
	last.Kind = api.NodeScript
	for i := range api.MaxNodes - 1 {
		empty[i].Kind = api.NodeEmpty
		last.Kids = append(last.Kids, i)
	}
	if s, e := show.Lisp(empty); len(s) != 4+5*(api.MaxNodes-1) || e != api.OK {
		t.Error(len(s), e)
	}
	for i := range api.MaxNodes - 1 {
		empty[i].At = 1000000
	}
	if s, e := show.Lisp(empty); s != "" || e != api.ErrLong {
		t.Error(len(s), e)
	}
}

// P7.3, P1: far more nodes, and far deeper ones, than any tree has.
func TestReadMuch(t *testing.T) {
	deep := strings.Repeat("(0 ", api.MaxLisp/4-1)
	deep = deep[:len(deep)-1] + strings.Repeat(")", api.MaxLisp/4-1)
	within := func(n int) string {
		return "(55 (37 " + strings.Repeat("(19 \"!\" ", n) + "(7)" + strings.Repeat(")", n) + "))"
	}
	for _, c := range []struct {
		s string
		e api.Errno
	}{
		{"(55" + strings.Repeat(" (36)", api.MaxNodes-1) + ")", api.OK},
		{"(55" + strings.Repeat(" (36)", api.MaxNodes) + ")", api.ErrLong},
		{"(55" + strings.Repeat(" (36)", api.MaxNodes) + "))", api.ErrLisp},
		{deep, api.ErrLong},
		{deep[:len(deep)-1], api.ErrLisp},
		{strings.Repeat("(", api.MaxLisp), api.ErrLisp},
		{"(55" + strings.Repeat(" \"a\"", api.MaxLisp/5) + ")", api.ErrLisp},
		{"(1 0x" + strings.Repeat("f", 1000000) + ")", api.ErrLisp},
		{"(1 " + strings.Repeat("1", 1000000) + ")", api.ErrLisp},
		{"(" + strings.Repeat("1", 1000000) + ")", api.ErrLisp},
		{"(2 \"" + strings.Repeat("\\", 1000000) + "\")", api.ErrTree},
		{within(api.MaxDeep - 3), api.OK},
		{within(api.MaxDeep - 2), api.ErrDeep},
	} {
		l, at, e := show.Read(c.s)
		if at != 0 || e != c.e || (len(l) == 0) != (e != api.OK) {
			t.Errorf("%.20s: %d nodes, %d, %d, not %d", c.s, len(l), at, e, c.e)
		}
	}
}

// P1: any bytes.
func TestReadAnything(t *testing.T) {
	r := rand.New(rand.NewSource(72))
	some := []byte("()()()  \"\"\\u0a@155736269.e+-\n\xff\x80")
	for range 30000 {
		b := make([]byte, r.Intn(24))
		for i := range b {
			b[i] = some[r.Intn(len(some))]
		}
		holdRead(t, string(b))
	}
	all := make([]byte, 256)
	for i := range all {
		all[i] = byte(i)
		holdRead(t, "(55 (37 (2 \""+string(all[i:i+1])+"\")))")
		holdRead(t, "(2 \"\\"+string(all[i:i+1])+"\")")
		holdRead(t, string(all[i:i+1]))
	}
	holdRead(t, string(bytes.Repeat(all, 10)))
}

// shares says whether two texts have memory together.
func shares(a, b string) bool {
	if a == "" || b == "" {
		return false
	}
	x, y := uintptr(unsafe.Pointer(unsafe.StringData(a))), uintptr(unsafe.Pointer(unsafe.StringData(b)))
	return x < y+uintptr(len(b)) && y < x+uintptr(len(a))
}

// P2, P3: answers lie in memory of their own, and are the same whenever they are asked for.
func TestAnswersAreNewMemory(t *testing.T) {
	s := strings.Clone("(55 (37 (22 \"instanceof\" (6 \"abc\" @3) (2 \"xyz\"))))")
	l, _, e := show.Read(s)
	again, _, _ := show.Read(s)
	if e != api.OK || !alike(l, again) {
		t.Fatal(e)
	}
	for i := range l {
		if shares(l[i].Text, s) || shares(string(l[i].Str), s) || shares(l[i].Text, again[i].Text) {
			t.Errorf("node %d shares", i)
		}
		for j := range l {
			if i != j && len(l[i].Kids) > 0 && len(l[j].Kids) > 0 && &l[i].Kids[0] == &l[j].Kids[0] {
				t.Errorf("nodes %d, %d share", i, j)
			}
		}
	}
	name := strings.Clone("aName")
	for _, n := range []api.Node{{Kind: api.NodeName, Text: name}, {Kind: api.NodeStr, Str: api.Str(strings.Clone("\x00a\x00b"))}} {
		given := one(n)
		before := lispBy(given, 2)
		first, _ := show.Source(given)
		second, _ := show.Source(given)
		third, _ := show.Lisp(given)
		if shares(first, n.Text) || shares(first, string(n.Str)) || shares(third, n.Text) || shares(first, second) || first != second || lispBy(given, 2) != before {
			t.Errorf("%v: %s", n, first)
		}
	}
}

// P2: what lies behind a list's length is not read.
func TestBehindTheEnd(t *testing.T) {
	l := append(one(api.Node{Kind: api.NodeThis}), api.Node{Kind: 99})[:3]
	l[2].Kids = append(l[2].Kids, 77)[:1]
	if s, e := show.Lisp(l); s != "(55 (37 (7)))" || e != api.OK {
		t.Error(s, e)
	}
	if s, e := show.Source(l); e != api.OK || drawn(treeOf(t, s)) != drawn(l) {
		t.Error(s, e)
	}
}
