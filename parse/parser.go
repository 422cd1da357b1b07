package parse

import "lintel/api"

// place is that of a token that no script goes on with: it is thrown.
type place int

// parser reads tokens one by one, and never goes back: where it must choose it looks ahead. So the
// first token that it can't go on with is the first that no script goes on with.
type parser struct {
	tokens     []api.Token
	at         int        // the number of the token that is next
	nodes      []api.Node // kids ahead of those that have them
	statements map[string]func(*parser) int
	strengths  map[string]int
}

// next is the token that is next. (Of signs, words and names the Text alone tells which it is: no two
// kinds have one in common, and other tokens have none.)
func (p *parser) next() *api.Token { return p.ahead(0) }

// ahead is the token behind so many others. None asks for one behind the end.
func (p *parser) ahead(count int) *api.Token { return &p.tokens[p.at+count] }

// take passes over the next token.
func (p *parser) take() *api.Token {
	p.at++
	return &p.tokens[p.at-1]
}

// fail throws the next token's place.
func (p *parser) fail() { panic(place(p.next().From)) }

// is says whether the next token is that sign, word or name.
func (p *parser) is(text string) bool { return p.next().Text == text }

// eat passes over the next token if it is that one.
func (p *parser) eat(text string) bool {
	if !p.is(text) {
		return false
	}
	p.at++
	return true
}

// must passes over the next token, which must be that one, and answers its place.
func (p *parser) must(text string) int {
	if !p.is(text) {
		p.fail()
	}
	return p.take().From
}

// name passes over the next token, which must be a name.
func (p *parser) name() *api.Token {
	if p.next().Kind != api.TokName {
		p.fail()
	}
	return p.take()
}

// add puts a node behind those that there are, and answers its number.
func (p *parser) add(kind, at int, text string, kids ...int) int {
	return p.put(api.Node{Kind: kind, Text: text, Kids: kids, At: at})
}

func (p *parser) put(n api.Node) int {
	p.nodes = append(p.nodes, n)
	return len(p.nodes) - 1
}

// none puts the node of a part that is absent.
func (p *parser) none() int { return p.add(api.NodeNone, 0, "") }

// from is where node n begins.
func (p *parser) from(n int) int { return p.nodes[n].At }
