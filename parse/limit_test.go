package parse_test

import (
	"runtime/debug"
	"strings"
	"testing"

	"lintel/api"
	"lintel/parse"
	"lintel/tree"
)

// holdAt holds what Script says of a source and, unless it begins as no expression does, what Expr says.
func holdAt(t *testing.T, name, src string, at int, e api.Errno) {
	t.Helper()
	if l, got, err := parse.Script(src); got != at || err != e || (e == api.OK) != (len(l) > 0) {
		t.Errorf("%s: Script: %d nodes, %d, error %d; want %d, %d", name, len(l), got, err, at, e)
	}
	if strings.HasPrefix(src, ";") || strings.HasPrefix(src, "{") {
		return
	}
	if l, got, err := parse.Expr(src); got != at || err != e || (e == api.OK) != (len(l) > 0) {
		t.Errorf("%s: Expr: %d nodes, %d, error %d; want %d, %d", name, len(l), got, err, at, e)
	}
}

// P8.1, P8.2: MaxNest, ahead of what no script goes on with.
func TestNest(t *testing.T) {
	rep := strings.Repeat
	for _, c := range []struct{ name, open, in, shut string }{
		{"parentheses", "(", "a", ")"}, {"lists", "[", "a", "]"}, {"blocks", "{", "", "}"}, {"templates", "`${", "a", "}`"}, {"calls", "a(", "a", ")"}, {"indices", "a[", "a", "]"},
	} {
		holdAt(t, c.name, rep(c.open, api.MaxNest)+c.in+rep(c.shut, api.MaxNest), 0, api.OK)
		bracket := len(c.open) - 1 // a(, a[
		if c.name == "templates" {
			bracket = 0 // its first byte
		}
		deep := rep(c.open, api.MaxNest+1)
		at := len(c.open)*api.MaxNest + bracket
		holdAt(t, c.name, deep+c.in+rep(c.shut, api.MaxNest+1), at, api.ErrDeep)
		holdAt(t, c.name, deep, at, api.ErrDeep)
		holdAt(t, c.name, deep+deep, at, api.ErrDeep)
		holdAt(t, c.name, ") ; ] "+deep, 6+at, api.ErrDeep)
		holdAt(t, c.name, rep(c.open, api.MaxNest), len(c.open)*api.MaxNest, api.ErrSyntax)
	}
	objects := rep("[{a:", api.MaxNest/2) + "a" + rep("}]", api.MaxNest/2)
	holdAt(t, "objects", objects, 0, api.ErrDeep) // three nodes a pair: the tree is too deep
	holdAt(t, "objects", "("+objects+")", len("(")+len("[{a:")*(api.MaxNest/2-1)+len("[{")-1, api.ErrDeep)
	holdAt(t, "brackets that are shut", rep("(a)[a]+[a]+`${a}`+({})+", 30)+"a", 0, api.OK)
	holdAt(t, "a middle opens and shuts none", "`${a"+rep("}${a", 2*api.MaxNest)+"}`", 0, api.OK)
	holdAt(t, "a middle within", rep("(", api.MaxNest-1)+"`${a}${a}${a}`"+rep(")", api.MaxNest-1), 0, api.OK)
	holdAt(t, "a middle within", rep("(", api.MaxNest)+"`${a}${a}`", api.MaxNest, api.ErrDeep)
	holdAt(t, "a template without pieces", rep("(", api.MaxNest)+"`a`"+rep(")", api.MaxNest), 0, api.OK)
	holdAt(t, "what is shut and was not open", rep(")", 10)+rep("(", api.MaxNest), 0, api.ErrSyntax)
	holdAt(t, "what is shut and was not open", rep(")]}", 10)+rep("(", api.MaxNest+1), 30+api.MaxNest, api.ErrDeep)
	holdAt(t, "brackets that do not fit", rep("(", api.MaxNest)+"]"+"[", api.MaxNest, api.ErrSyntax)
	holdAt(t, "brackets that do not fit", rep("(", api.MaxNest)+"}}"+"[{(", api.MaxNest+4, api.ErrDeep)
	holdAt(t, "brackets in texts", "'"+rep("(", 2*api.MaxNest)+"'", 0, api.OK)
}

// P8.1, P8.2: MaxNodes, behind what no script goes on with, ahead of MaxDeep.
func TestLong(t *testing.T) {
	rep := strings.Repeat
	holdAt(t, "as many", rep(";", api.MaxNodes-1), 0, api.OK)
	holdAt(t, "one more", rep(";", api.MaxNodes), 0, api.ErrLong)
	holdAt(t, "wrong, too", rep(";", api.MaxNodes)+")", api.MaxNodes, api.ErrSyntax)
	list := "[" + rep("a,", api.MaxNodes-3) + "]" // a list, its statement, the script
	holdAt(t, "as many in a list", list, 0, api.OK)
	holdAt(t, "one more in a list", "[a,"+list[1:], 0, api.ErrLong)
	holdAt(t, "many in a list, and wrong", "[a,"+list[1:]+"]", len(list)+2, api.ErrSyntax)
	holdAt(t, "too deep, too", rep("!", api.MaxNodes)+"a", 0, api.ErrLong)
	holdAt(t, "too deep, too, and wrong", rep("!", api.MaxNodes), api.MaxNodes, api.ErrSyntax)
	holdAt(t, "MaxSource", rep(" ", api.MaxSource-1)+"a", 0, api.OK)
}

// P8.1, P8.2: MaxDeep, behind what no script goes on with.
func TestDeep(t *testing.T) {
	rep := strings.Repeat
	for _, c := range []struct {
		more, shut string
		deep       int // how deep so many are
	}{
		{"!", "", 3}, {"a=", "", 3}, {"a=>", "", 4}, {"a**", "", 3}, {"a?a:", "", 3}, {"new ", "", 3},
		{"`${", "}`", 3}, {"a+(", ")", 3}, {"a[", "]", 3}, {"(a,", ")", 3}, {"a(", ")", 3}, {"[", "]", 3},
	} {
		count := api.MaxDeep - c.deep
		if c.shut != "" {
			count = api.MaxNest
		}
		src := rep(c.more, count) + "a" + rep(c.shut, count)
		holdAt(t, c.more, src, 0, api.OK)
		if l, _, _ := parse.Script(src); tree.Deep(l) != c.deep+count {
			t.Errorf("%s: %d", c.more, tree.Deep(l))
		}
		more := rep("x=", api.MaxDeep-c.deep-count) + src
		holdAt(t, c.more, more, 0, api.OK)
		holdAt(t, c.more, "x="+more, 0, api.ErrDeep)
		holdAt(t, c.more, "x="+more+" ]", len("x="+more)+1, api.ErrSyntax)
	}
	for _, more := range []string{"+a", ".a", "()", "[a]", "&&a", "-a", "*a", "||a", "|a", "==a", " in a", "<<a"} {
		src := "a" + rep(more, api.MaxDeep-3)
		holdAt(t, more, src, 0, api.OK)
		holdAt(t, more, src+more, 0, api.ErrDeep)
		holdAt(t, more, src+more+" a", len(src+more)+1, api.ErrSyntax)
	}
	for _, more := range []string{"a:", "if(a)", "while(a)", "for(;;)", "for(a of a)", "if(a);else "} {
		src := ";" + rep(more, api.MaxDeep-2) + ";"
		holdAt(t, more, src, 0, api.OK)
		holdAt(t, more, ";"+more+src[1:], 0, api.ErrDeep)
	}
}

// P1: as deep as a source may go without brackets; what is read takes no more room than is there even
// on machines of 32 bits.
func TestDeepest(t *testing.T) {
	defer debug.SetMaxStack(debug.SetMaxStack(250000000))
	for _, c := range []struct {
		more, last string
		e          api.Errno
	}{
		{"!", "a", api.ErrLong}, {"- ", "a", api.ErrLong}, {"typeof ", "a", api.ErrDeep}, {"a=", "a", api.ErrLong}, {"a?a:", "a", api.ErrLong}, {"a?", "a", api.ErrSyntax}, {"a=>", "a", api.ErrLong}, {"()=>", "a", api.ErrLong}, {"a**", "a", api.ErrLong},
		{"++", "a", api.ErrSyntax}, {"new ", "a", api.ErrDeep}, {"a:", ";", api.ErrLong}, {"if(a)", ";", api.ErrLong}, {"if(a);else ", ";", api.ErrDeep}, {"do ", ";", api.ErrSyntax}, {"for(;;)", ";", api.ErrLong}, {"while(a)", ";", api.ErrDeep},
		{"for(a in a)", ";", api.ErrDeep}, {"for(a of a)", ";", api.ErrDeep}, {"a:if(a)", ";", api.ErrLong}, {"a+", "a", api.ErrLong}, {"a.", "a", api.ErrLong}, {"a()+a[a]*", "a", api.ErrLong}, {"a||a&&a|a^a&a==a<a<<a+a*", "a", api.ErrLong}, {"-a**", "a", api.ErrSyntax},
		{"a=a?a:a=>", "a", api.ErrLong}, {"a,", "a", api.ErrLong}, {"let a=", "a", api.ErrSyntax},
	} {
		src := strings.Repeat(c.more, (api.MaxSource-len(c.last))/len(c.more)) + c.last
		if l, _, e := parse.Script(src); l != nil || e != c.e {
			t.Errorf("%s: %d nodes, error %d", c.more, len(l), e)
		}
		parse.Expr(src)
	}
}
