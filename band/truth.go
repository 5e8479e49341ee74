package band

import (
	"iter"
	"slices"

	"lucifer/api"
)

// tally is how many bands are used, spoiled, left, and missing.
type tally [api.BandMissing + 1]int

// missing returns how many bands are missing.
func (t tally) missing() int { return t[api.BandMissing] }

// due returns what is owed at a rate.
func (t tally) due(rate int) int { return rate * (t[api.BandMissing] - t[api.BandSpoiled]) }

// noted returns how many numbers of a run are in notes, by their kinds.
func (k book) noted(x run) tally {
	var t tally
	for note, y := range k.notes() {
		t[k.Notes[note].Kind] += x.common(y).Many
	}
	return t
}

// all returns how many numbers are in notes, by their kinds.
func (k book) all() tally { return k.noted(through(1, api.BandNumber)) }

// truths produces how many bands are what in the truths in which all notes are right.
func (k book) truths() iter.Seq[tally] {
	return func(yield func(tally) bool) {
		if _, _, is := k.clash(); is || len(k.strange()) > 0 {
			return
		}
		noted, used := k.all(), k.used()
		for n := max(used.Low, noted[api.BandUsed]); n <= used.High; n++ {
			t := noted
			t[api.BandUsed] = n
			t[api.BandMissing] = k.bands() - sum(t[:]...)
			if t.missing() >= 0 && !yield(t) {
				return
			}
		}
	}
}

// right reports whether a book can be true.
func (k book) right() bool {
	for range k.truths() {
		return true
	}
	return false
}

// between returns a number, at least and at most, of all truths in which all notes are right.
func (k book) between(number func(tally) int) (api.Span, api.Errno) {
	var numbers []int
	for t := range k.truths() {
		numbers = append(numbers, number(t))
	}
	if len(numbers) == 0 {
		return api.Span{}, api.ErrBandFalse
	}
	return api.Span{Low: slices.Min(numbers), High: slices.Max(numbers)}, api.OK
}

// fates returns, as sets of bits, what all bands of each note and of each gap can be.
func (k book) fates() map[run]int {
	fates, noted := map[run]int{}, k.all()
	for t := range k.truths() {
		for note, x := range k.notes() {
			fates[x] |= 1 << k.Notes[note].Kind
		}
		for x := range k.gaps() {
			for kind, many := range t {
				// If more bands are so than notes tell, one in no note is so, and it can be any one of them.
				if many > noted[kind] {
					fates[x] |= 1 << kind
				}
			}
		}
	}
	return fates
}

// fate returns, as a set of bits, what a band can be: nothing, if the book cannot be true.
func (k book) fate(number int) int {
	fate := 0
	for x, kinds := range k.fates() {
		if x.has(number) {
			fate |= kinds
		}
	}
	return fate
}
