package band

import (
	"iter"
	"slices"
)

// without returns the book of whose notes all are counted but some.
func (k book) without(notes []int) book {
	k.counts = func(note int) bool { return !slices.Contains(notes, note) }
	return k
}

// lists produces all increasing lists of so many of all notes, in their order.
func lists(notes, many int) iter.Seq[[]int] {
	return func(yield func([]int) bool) {
		var add func(list []int, next int) bool
		add = func(list []int, next int) bool {
			n := len(list)
			if n == many {
				return yield(list)
			}
			for note := next; note < notes; note++ {
				// The third index lets append copy: other lists begin with the same notes.
				if !add(append(list[:n:n], note), note+1) {
					return false
				}
			}
			return true
		}
		add(nil, 0)
	}
}

// wrong returns the fewest notes without which the book can be true, and whether there are such ones.
func (k book) wrong() ([]int, bool) {
	notes := len(k.Notes)
	for many := range notes + 1 {
		for list := range lists(notes, many) {
			if k.without(list).right() {
				return list, true
			}
		}
	}
	return nil, false
}
