package keys

import (
	"iter"
	"slices"

	"lintel/api"
)

// Table gives texts and symbols numbers.
type Table struct {
	self    *Table          // itself, if New made it: a copy would share the map but not what it tells of
	numbers map[api.Key]int // of bare keys of texts
	texts   []api.Str       // by their numbers
	symbols []api.Str       // the descriptions, of symbol 1 on
}

// New: P4.3.
func New() *Table {
	t := &Table{numbers: map[api.Key]int{}}
	t.self = t
	return t
}

func (t *Table) isMade() bool { return t != nil && t.self == t }

// Intern: P4.3, P4.5.
func (t *Table) Intern(s api.Str) int {
	if !t.isMade() {
		return -1
	}
	k := bare(api.Key{Name: s})
	if n, known := t.numbers[k]; known {
		return n
	}
	n := len(t.texts)
	k.Name = own(s)
	t.numbers[k] = n
	t.texts = append(t.texts, k.Name)
	return n
}

// Name: P4.3, P4.5.
func (t *Table) Name(n int) (api.Str, api.Errno) {
	if !t.isMade() {
		return "", api.ErrKeys
	}
	if n < 0 || n >= len(t.texts) {
		return "", api.ErrRange
	}
	return own(t.texts[n]), api.OK
}

// Len: P4.3.
func (t *Table) Len() int {
	if !t.isMade() {
		return 0
	}
	return len(t.texts)
}

// Each: P4.3.
func (t *Table) Each() iter.Seq2[int, api.Str] {
	return func(yield func(int, api.Str) bool) {
		if !t.isMade() {
			return
		}
		// The list is asked for once, as one begins: texts that come while it is gone over are not told.
		for n, s := range slices.All(t.texts) {
			if !yield(n, own(s)) {
				return
			}
		}
	}
}

// Symbol: P4.4.
func (t *Table) Symbol(name api.Str) (api.Key, api.Errno) {
	if !t.isMade() {
		return api.Key{}, api.ErrKeys
	}
	if len(t.symbols) >= api.MaxSymbols {
		return api.Key{}, api.ErrLong
	}
	t.symbols = append(t.symbols, own(name))
	return api.Key{Sym: len(t.symbols)}, api.OK
}

// About: P4.4.
func (t *Table) About(k api.Key) (api.Str, api.Errno) {
	if !t.isMade() {
		return "", api.ErrKeys
	}
	if !isSymbol(k) || k.Sym > len(t.symbols) {
		return "", api.ErrSymbol
	}
	return own(t.symbols[k.Sym-1]), api.OK
}
