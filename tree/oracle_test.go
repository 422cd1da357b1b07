package tree_test

import (
	"math"
	"math/rand"
	"regexp"
	"slices"
	"strings"
	"testing"

	"lintel/api"
	"lintel/tree"
)

// The kinds of nodes in the order of their numbers, from 1 on.
const names = "Num Str True False Null Name This Array Object Prop Getter Setter Func Arrow Call New Dot Index Unary Pre Post " +
	"Binary And Or Cond Assign Seq Template Spread Params Rest Block Let Const Init Empty Expr If For ForIn ForOf While Do " +
	"Break Continue Return Throw Try Switch Case Default Label Fun None Script Computed"

// Further words: a function by its parameters (none, one name, others), a declaration for a for's in
// and of (of one name without a value), and the document's words for several kinds.
const (
	variants = "Func0 Func1 Let1 Const1"
	lets     = "Let|Let1|Const|Const1"
	eWord    = "Num|Str|True|False|Null|Name|This|Array|Object|Func|Func0|Func1|Arrow|Call|New|Dot|Index|Unary|Pre|Post|" +
		"Binary|And|Or|Cond|Assign|Seq|Template"
	bodyWord = "Block|Empty|Expr|If|For|ForIn|ForOf|While|Do|Break|Continue|Return|Throw|Try|Switch|Label"
)

const (
	unaries  = "! ~ + - typeof void delete"
	steps    = "++ --"
	binaries = "+ - * / % ** << >> >>> & | ^ < > <= >= == != === !== in instanceof"
	assigns  = "= += -= *= /= %= **= <<= >>= >>>= &= |= ^="
)

// The document's table: kinds; what their Text may be; their kids, one behind the other, where *
// stands for as often as wanted, ? for perhaps, and two words in one part belong together.
var table = []struct{ kinds, text, kids string }{
	{"Num Str True False Null This Empty None", "", ""},
	{"Name Rest", "name", ""},
	{"Array", "", "E|Spread*"},
	{"Object", "", "Prop|Getter|Setter*"},
	{"Prop", "", "Key, E"},
	{"Getter", "", "Key, Func0"},
	{"Setter", "", "Key, Func1"},
	{"Func", "name?", "Params, Block"},
	{"Arrow", "", "Params, E|Block"},
	{"Call New", "", "E, E|Spread*"},
	{"Dot", "name word", "E"},
	{"Index And Or", "", "E, E"},
	{"Unary", unaries, "E"},
	{"Pre Post", steps, "Target"},
	{"Binary", binaries, "E, E"},
	{"Cond", "", "E, E, E"},
	{"Assign", assigns, "Target, E"},
	{"Seq", "", "E, E, E*"},
	{"Template", "", "Str, E Str*"},
	{"Spread Expr Throw Computed", "", "E"},
	{"Params", "", "Name*, Rest?"},
	{"Block Script Default", "", "S*"},
	{"Let Const", "", "Init, Init*"},
	{"Init", "name", "E?"},
	{"If", "", "E, Body, Body?"},
	{"For", "", "Lets|E|None, E|None, E|None, Body"},
	{"ForIn ForOf", "", "Let1|Const1|Name, E, Body"},
	{"While", "", "E, Body"},
	{"Do", "", "Body, E"},
	{"Break Continue", "name?", ""},
	{"Return", "", "E?"},
	{"Try", "name", "Block, Block, Block|None"},
	{"Try", "", "Block, None, Block"},
	{"Switch", "", "E, Case*, Default?, Case*"},
	{"Case", "", "E, S*"},
	{"Label", "name", "Body"},
	{"Fun", "name", "Params, Block"},
}

// words are all kinds and variants; a kind's number is its place, and one more.
var words = strings.Fields(names + " " + variants)

// letter stands for a word in a form.
func letter(word string) string { return string(rune(0x4E00 + slices.Index(words, word))) }

// alternatives are the kinds and variants that a part's word stands for.
func alternatives(word string) []string {
	word = strings.NewReplacer("Lets", lets).Replace(word)
	var out []string
	for _, w := range strings.Split(word, "|") {
		switch w {
		case "E":
			out = append(out, strings.Split(eWord, "|")...)
		case "Body":
			out = append(out, strings.Split(bodyWord, "|")...)
		case "S":
			out = append(out, strings.Split(bodyWord+"|Fun|"+lets, "|")...)
		case "Key":
			out = append(out, "Str", "Num", "Computed")
		case "Target":
			out = append(out, "Name", "Dot", "Index")
		default:
			out = append(out, w)
		}
	}
	return out
}

// part is some kids that belong together, and how often they stand: ' ', '?' or '*'.
type part struct {
	words []string
	often byte
}

func partsOf(kids string) []part {
	var out []part
	for p := range strings.SplitSeq(kids, ", ") {
		often := byte(' ')
		if p != "" && strings.Contains("?*", p[len(p)-1:]) {
			often, p = p[len(p)-1], p[:len(p)-1]
		}
		out = append(out, part{strings.Fields(p), often})
	}
	return out
}

// formOf is a form of the letters of all kids.
func formOf(kids string) *regexp.Regexp {
	form := ""
	for _, p := range partsOf(kids) {
		form += "(?:"
		for _, w := range p.words {
			form += "["
			for _, a := range alternatives(w) {
				form += letter(a)
			}
			form += "]"
		}
		form += ")" + strings.TrimSpace(string(p.often))
	}
	return regexp.MustCompile("^" + form + "$")
}

// rowBy is a row of the table, ready to be asked.
type rowBy struct {
	text  string
	kids  *regexp.Regexp
	parts []part
}

// byKind is the table's rows by the kinds' numbers.
var byKind = func() map[int][]rowBy {
	out := map[int][]rowBy{}
	for _, r := range table {
		for _, k := range strings.Fields(r.kinds) {
			n := slices.Index(words, k) + 1
			out[n] = append(out[n], rowBy{r.text, formOf(r.kids), partsOf(r.kids)})
		}
	}
	return out
}()

const reserved = `break case catch class const continue debugger default delete do else enum export extends false
finally for function if import in instanceof new null return super switch this throw true try typeof var void while with
implements interface let package private protected public static yield`

var nameForm = regexp.MustCompile(`^[a-zA-Z$_][a-zA-Z0-9$_]*$`)

// textBy says whether a text is one that a row asks for.
func textBy(rule, text string) bool {
	word := slices.Contains(strings.Fields(reserved), text)
	name := nameForm.MatchString(text) && !word
	switch rule {
	case "":
		return text == ""
	case "name":
		return name
	case "name?":
		return name || text == ""
	case "name word":
		return name || word
	}
	return slices.Contains(strings.Fields(rule), text)
}

// wordBy is the word for a node: its kind, or a variant of that.
func wordBy(l []api.Node, n int) string {
	kid := func(n, i int) int { return l[n].Kids[i] }
	switch k := l[n]; k.Kind {
	case api.NodeFunc:
		p := kid(n, 0)
		if len(l[p].Kids) == 0 {
			return "Func0"
		}
		if len(l[p].Kids) == 1 && l[kid(p, 0)].Kind == api.NodeName {
			return "Func1"
		}
	case api.NodeLet, api.NodeConst:
		if len(k.Kids) == 1 && len(l[kid(n, 0)].Kids) == 0 {
			return words[k.Kind-1] + "1"
		}
	}
	return words[l[n].Kind-1]
}

// fitsBy says whether a node whose kids fit is as the table says.
func fitsBy(l []api.Node, n int) bool {
	k := l[n]
	num := math.Float64bits(k.Num) == 0
	if k.Kind == api.NodeNum {
		num = math.Float64bits(k.Num) <= math.Float64bits(math.Inf(1))
	}
	if !num || k.At < 0 || k.Kind != api.NodeStr && len(k.Str) > 1 {
		return false
	}
	kids := ""
	for _, i := range k.Kids {
		kids += letter(wordBy(l, i))
	}
	return slices.ContainsFunc(byKind[k.Kind], func(r rowBy) bool { return textBy(r.text, k.Text) && r.kids.MatchString(kids) })
}

// deepBy is how many nodes stand one within another from n down.
func deepBy(l []api.Node, n int) int {
	most := 0
	for _, k := range l[n].Kids {
		if k >= 0 && k < n {
			most = max(most, deepBy(l, k))
		}
	}
	return most + 1
}

// checkBy is an oracle for Check.
func checkBy(l []api.Node) (int, api.Errno) {
	if len(l) > api.MaxNodes {
		return 0, api.ErrLong
	}
	ups := map[int]int{}
	for i, n := range l {
		for _, k := range n.Kids {
			if _, has := ups[k]; has || k < 0 || k >= i {
				return i, api.ErrTree
			}
			ups[k] = i
		}
		if !fitsBy(l, i) {
			return i, api.ErrTree
		}
	}
	if len(l) == 0 {
		return 0, api.ErrTree
	}
	last := len(l) - 1
	for i, n := range l {
		_, has := ups[i]
		if (n.Kind == api.NodeScript) != (i == last) || !has && i != last {
			return last, api.ErrTree
		}
	}
	if deepBy(l, last) > api.MaxDeep {
		return 0, api.ErrDeep
	}
	return 0, api.OK
}

// holdBy holds Check against the oracle.
func holdBy(t *testing.T, l []api.Node) api.Errno {
	t.Helper()
	at, e := tree.Check(l)
	if wantAt, want := checkBy(l); at != wantAt || e != want {
		t.Fatalf("Check(%v): %d, %d, not %d, %d", l, at, e, wantAt, want)
	}
	return e
}

// grower makes trees as they come.
type grower struct {
	*rand.Rand
	l []api.Node
}

// grow lays a tree of one of the words' kinds, and answers its node's number; where little is left,
// what has no kids is taken if it may be.
func (g *grower) grow(word string, left int) int {
	some := alternatives(word)
	w := some[g.Intn(len(some))]
	if left <= 0 {
		for _, leaf := range []string{"Name", "Num", "Str", "Empty", "Block", "None", "Func0", "Let1"} {
			if slices.Contains(some, leaf) {
				w = leaf
			}
		}
	}
	switch w {
	case "Func0", "Func1", "Let1", "Const1":
		return g.growVariant(w, left)
	}
	return g.growKind(slices.Index(words, w)+1, left)
}

func (g *grower) growVariant(w string, left int) int {
	kids := []int{}
	if w == "Func1" {
		kids = append(kids, g.grow("Name", left-1))
	}
	switch w {
	case "Let1", "Const1":
		init := g.add(api.Node{Kind: api.NodeInit, Text: g.text("name")})
		return g.add(api.Node{Kind: slices.Index(words, w[:len(w)-1]) + 1, Kids: []int{init}})
	}
	params := g.add(api.Node{Kind: api.NodeParams, Kids: kids})
	return g.add(api.Node{Kind: api.NodeFunc, Text: g.text("name?"), Kids: []int{params, g.grow("Block", left-1)}})
}

func (g *grower) growKind(kind, left int) int {
	r := byKind[kind][g.Intn(len(byKind[kind]))]
	n := api.Node{Kind: kind, Text: g.text(r.text), At: g.Intn(3)}
	switch kind {
	case api.NodeNum:
		n.Num = []float64{0, 1, 1.5, 5e-324, math.Inf(1)}[g.Intn(5)]
	case api.NodeStr:
		n.Str = []api.Str{"", "\x00a", "\xd8\x00\x00b", "\x00ab"}[g.Intn(4)]
	}
	for _, p := range r.parts {
		many := 1
		if p.often != ' ' {
			many = min(g.Intn(3), max(left, 0))
		}
		if p.often == '?' {
			many = min(many, 1)
		}
		for range many {
			for _, w := range p.words {
				n.Kids = append(n.Kids, g.grow(w, left-1))
			}
		}
	}
	return g.add(n)
}

func (g *grower) add(n api.Node) int {
	g.l = append(g.l, n)
	return len(g.l) - 1
}

// text is one that a row asks for.
func (g *grower) text(rule string) string {
	some := strings.Fields(rule)
	switch rule {
	case "":
		return ""
	case "name":
		some = []string{"a", "of", "$1"}
	case "name?":
		some = []string{"", "a", "b_"}
	case "name word":
		some = []string{"a", "let", "in"}
	}
	return some[g.Intn(len(some))]
}

// someTree is a tree with its nodes' numbers as they come: kids ahead of those that have them, and no more.
func someTree(r *rand.Rand, left int) []api.Node {
	g := &grower{Rand: r}
	g.grow("Script", left)
	return shuffled(r, g.l)
}

// shuffled is a tree with other numbers.
func shuffled(r *rand.Rand, l []api.Node) []api.Node {
	number := make([]int, len(l))
	placed := make([]bool, len(l))
	var out []api.Node
	for len(out) < len(l) {
		i := r.Intn(len(l))
		if placed[i] || slices.ContainsFunc(l[i].Kids, func(k int) bool { return !placed[k] }) {
			continue
		}
		n := l[i]
		n.Kids = nil
		for _, k := range l[i].Kids {
			n.Kids = append(n.Kids, number[k])
		}
		placed[i], number[i] = true, len(out)
		out = append(out, n)
	}
	return out
}

// copied is a list with lists of kids of its own.
func copied(l []api.Node) []api.Node {
	out := slices.Clone(l)
	for i := range out {
		out[i].Kids = slices.Clone(out[i].Kids)
	}
	return out
}
