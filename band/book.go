package band

import (
	"iter"
	"slices"

	"lucifer/api"
	"lucifer/fill"
)

// valid reports whether a book is valid.
func valid(b api.BandBook) bool {
	if !within(len(b.Rolls), 1, api.BandRolls) || len(b.Notes) > api.BandNotes {
		return false
	}
	before := 0
	for _, r := range b.Rolls {
		if !within(r.Many, 1, api.BandMany) || !within(r.First, before+1, api.BandNumber-r.Many+1) {
			return false
		}
		before = run{r}.last()
	}
	for _, n := range b.Notes {
		if !within(n.Kind, api.BandUsed, api.BandLeft) || !within(n.From, 1, api.BandNumber) || !within(n.To, n.From, min(n.From+api.BandLong-1, api.BandNumber)) {
			return false
		}
	}
	is, e := fill.IsPlan(b.Fill, b.Plan)
	return is && e == api.OK
}

// book is a valid book, some of whose notes may not be counted.
type book struct {
	api.BandBook
	boxes, byHand int                 // how many boxes there are, and how many of them must be filled by hand
	counts        func(note int) bool // reports whether a note is counted
}

// open returns the book of a valid one, with all of its notes.
func open(b api.BandBook) book {
	byHand, _ := fill.ByHand(b.Fill, b.Plan)
	return book{BandBook: b, boxes: len(b.Plan), byHand: len(byHand)}.without(nil)
}

// least returns how many bands were used, if no box was opened again.
func (k book) least() int { return k.boxes }

// most returns how many bands were used, if each box that could be opened again was.
func (k book) most() int { return sum(k.boxes, k.byHand) }

// used returns how many bands were used, at least and at most.
func (k book) used() api.Span {
	ends := [...]func(book) int{book.least, book.most}
	return api.Span{Low: ends[0](k), High: ends[1](k)}
}

// sold reports whether a number is that of a band.
func (k book) sold(number int) bool {
	return slices.ContainsFunc(k.Rolls, func(r api.BandRoll) bool { return run{r}.has(number) })
}

// bands returns how many bands were sold.
func (k book) bands() int {
	var many []int
	for _, r := range k.Rolls {
		many = append(many, r.Many)
	}
	return sum(many...)
}

// notes produces each note that is counted, with the run of its numbers.
func (k book) notes() iter.Seq2[int, run] {
	return func(yield func(int, run) bool) {
		for note, n := range k.Notes {
			if k.counts(note) && !yield(note, through(n.From, n.To)) {
				return
			}
		}
	}
}

// failing returns all notes that have a number of which something is not so.
func (k book) failing(is func(number int) bool) []int {
	var failing []int
notes:
	for note, x := range k.notes() {
		for more := range x.Many {
			if !is(x.First + more) {
				failing = append(failing, note)
				continue notes
			}
		}
	}
	return failing
}

// strange returns all notes that have a number that no band has.
func (k book) strange() []int { return k.failing(k.sold) }

// clash returns the first two notes that have a number in common, and whether there are two.
func (k book) clash() (int, int, bool) {
	for one, x := range k.notes() {
		for other, y := range k.notes() {
			if other > one && x.common(y) != (run{}) {
				return one, other, true
			}
		}
	}
	return 0, 0, false
}

// gaps produces all runs of bands of one roll that are in no note, each as long as it can be, in their order.
func (k book) gaps() iter.Seq[run] {
	return func(yield func(run) bool) {
		for _, r := range k.Rolls {
			for rest := (run{r}); rest.Many > 0; {
				gap := k.unnoted(rest)
				if gap.Many > 0 && !yield(gap) {
					return
				}
				// The band behind a gap is in a note, if there is one.
				rest = through(gap.last()+2, rest.last())
			}
		}
	}
}

// unnoted returns the numbers of a run before the first one that is in a note.
func (k book) unnoted(x run) run {
	for k.noted(x) != (tally{}) {
		x.Many--
	}
	return x
}
