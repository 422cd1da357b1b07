package check

import "lintel/api"

// walker goes along the instructions that can come to run.
//
// Tries lie at parts of the code, so that each instruction is in few of them, and each try is at few: part n + at (of n instructions) is one
// instruction, part p has parts 2p and 2p + 1 in it.
type walker struct {
	reached []bool
	waiting []int   // those of the reached that were not gone on from
	targets []int   // of each instruction; -1, if it has none
	parts   [][]int // of each part where its tries go on
}

func newWalker(f api.Fn) *walker {
	n := len(f.Code)
	w := &walker{reached: make([]bool, n), targets: make([]int, n), parts: make([][]int, 2*n)}
	for at := range w.targets {
		w.targets[at] = -1
	}
	for at, to := range Targets(f) {
		w.targets[at] = to
	}
	for _, t := range f.Tries {
		w.lay(t)
	}
	return w
}

// lay puts a try at the parts that together are its instructions, as far as there are such.
func (w *walker) lay(t api.Try) {
	n := len(w.reached)
	from, to := n+min(max(t.From, 0), n), n+min(max(t.To, 0), n)
	for from < to {
		if from%2 == 1 {
			w.parts[from] = append(w.parts[from], t.At)
			from++
		}
		if to%2 == 1 {
			to--
			w.parts[to] = append(w.parts[to], t.At)
		}
		from, to = from/2, to/2
	}
}

// reach comes to an instruction, if there is one of that number.
func (w *walker) reach(at int) {
	if 0 <= at && at < len(w.reached) && !w.reached[at] {
		w.reached[at] = true
		w.waiting = append(w.waiting, at)
	}
}

// next is an instruction that was reached and is to be gone on from.
func (w *walker) next() int {
	last := len(w.waiting) - 1
	at := w.waiting[last]
	w.waiting = w.waiting[:last]
	return at
}

// enter reaches what the tries about an instruction go on at; a part's tries need not be asked twice.
func (w *walker) enter(at int) {
	for p := at + len(w.reached); p > 0; p /= 2 {
		for _, to := range w.parts[p] {
			w.reach(to)
		}
		w.parts[p] = nil
	}
}
