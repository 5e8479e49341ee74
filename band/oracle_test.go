package band_test

import (
	"cmp"
	"math/rand"
	"slices"

	"lucifer/api"
	"lucifer/fill"
)

// What follows computes from the definitions alone, by trying out everything: the tests hold the package against it.

// missing is what a band is that is in no note of its kind, and was not used.
const missing = api.BandMissing

// numbersOf returns all numbers that a note has.
func numbersOf(n api.BandNote) []int {
	var numbers []int
	for number := n.From; number <= n.To; number++ {
		numbers = append(numbers, number)
	}
	return numbers
}

// known is a book with its bands, and with how many of them were used.
type known struct {
	api.BandBook
	bands []int
	used  api.Span
}

func know(b api.BandBook) known {
	k := known{BandBook: b}
	for _, r := range b.Rolls {
		for n := range r.Many {
			k.bands = append(k.bands, r.First+n)
		}
	}
	byHand, _ := fill.ByHand(b.Fill, b.Plan)
	k.used = to(len(b.Plan), len(b.Plan)+len(byHand))
	return k
}

// isTruth reports whether as many bands are used as can be, if it is told what each band is.
func (k known) isTruth(what []int) bool {
	n := 0
	for _, kind := range what {
		if kind == api.BandUsed {
			n++
		}
	}
	return n >= k.used.Low && n <= k.used.High
}

// rightIn reports whether all notes are right, if it is told what each band is.
func (k known) rightIn(what []int) bool {
	in := map[int]bool{}
	for _, n := range k.Notes {
		for _, number := range numbersOf(n) {
			i := slices.Index(k.bands, number)
			if i < 0 || what[i] != n.Kind || in[number] {
				return false
			}
			in[number] = true
		}
	}
	for i, number := range k.bands {
		if (what[i] == api.BandSpoiled || what[i] == api.BandLeft) && !in[number] {
			return false
		}
	}
	return true
}

// ends is how many bands are missing, and how many are spoiled, in a truth.
type ends struct{ missing, spoiled int }

// outcome is what is so in the truths of a book: what there can be of missing and spoiled bands, and what each band can be.
type outcome struct {
	ends map[ends]bool
	what map[int]int
}

func newOutcome() outcome { return outcome{ends: map[ends]bool{}, what: map[int]int{}} }

// right reports whether there is a truth.
func (o outcome) right() bool { return len(o.ends) > 0 }

// between returns what there is of something in all truths, at least and at most.
func (o outcome) between(number func(ends) int) (api.Span, api.Errno) {
	s, e := api.Span{}, api.ErrBandFalse
	for x := range o.ends {
		n := number(x)
		if e != api.OK {
			s = one(n)
		}
		s, e = to(min(s.Low, n), max(s.High, n)), api.OK
	}
	return s, e
}

func (o outcome) missing() (api.Span, api.Errno) {
	return o.between(func(x ends) int { return x.missing })
}

func (o outcome) due(rate int) (api.Span, api.Errno) {
	return o.between(func(x ends) int { return rate*x.missing - rate*x.spoiled })
}

// allTruths tries out each choice of what each band is.
func (k known) allTruths() outcome {
	o, what := newOutcome(), make([]int, len(k.bands))
	var set func(i int)
	set = func(i int) {
		if i < len(what) {
			for kind := range 4 {
				what[i] = kind
				set(i + 1)
			}
			return
		}
		if !k.isTruth(what) || !k.rightIn(what) {
			return
		}
		var x ends
		for i, kind := range what {
			o.what[k.bands[i]] |= []int{1, 2, 4, 8}[kind]
			switch kind {
			case api.BandSpoiled:
				x.spoiled++
			case missing:
				x.missing++
			}
		}
		o.ends[x] = true
	}
	set(0)
	return o
}

// can returns what each band alone can be, and whether notes are wrong whatever bands are.
func (k known) can() (can [][]int, wrong bool) {
	can = slices.Repeat([][]int{{api.BandUsed, missing}}, len(k.bands))
	in := map[int]bool{}
	for _, n := range k.Notes {
		for _, number := range numbersOf(n) {
			i := slices.Index(k.bands, number)
			if i < 0 || in[number] {
				return nil, true
			}
			can[i], in[number] = []int{n.Kind}, true
		}
	}
	return can, false
}

// counts is how many bands are what, of some bands.
type counts [4]int

// totals returns how many bands are what, in all truths, if it is told what each band alone can be.
func (k known) totals(can [][]int) map[counts]bool {
	all := map[counts]bool{{}: true}
	for _, kinds := range can {
		next := map[counts]bool{}
		for c := range all {
			for _, kind := range kinds {
				more := c
				more[kind]++
				next[more] = true
			}
		}
		all = next
	}
	for c := range all {
		if c[api.BandUsed] < k.used.Low || c[api.BandUsed] > k.used.High {
			delete(all, c)
		}
	}
	return all
}

// allTotals goes from band to band, and counts how many can be what: so the tests find out what is so of large books.
// It tells what each of some bands can be.
func (k known) allTotals(some ...int) outcome {
	o := newOutcome()
	can, wrong := k.can()
	if wrong {
		return o
	}
	for c := range k.totals(can) {
		o.ends[ends{c[missing], c[api.BandSpoiled]}] = true
	}
	for _, number := range some {
		i := slices.Index(k.bands, number)
		for _, kind := range can[i] {
			only := slices.Clone(can)
			only[i] = []int{kind}
			if len(k.totals(only)) > 0 {
				o.what[number] |= []int{1, 2, 4, 8}[kind]
			}
		}
	}
	return o
}

// without returns a book without some notes.
func without(b api.BandBook, notes []int) api.BandBook {
	b.Notes = slices.Clone(b.Notes)
	for _, i := range slices.Backward(notes) {
		b.Notes = slices.Delete(b.Notes, i, i+1)
	}
	return b
}

// choices returns all increasing lists of notes: shorter ones first, and those of one length in their order.
func choices(notes int) [][]int {
	var all [][]int
	for set := range 1 << notes {
		var list []int
		for i := range notes {
			if set>>i&1 == 1 {
				list = append(list, i)
			}
		}
		all = append(all, list)
	}
	slices.SortFunc(all, func(one, other []int) int {
		return cmp.Or(cmp.Compare(len(one), len(other)), slices.Compare(one, other))
	})
	return all
}

// wrong returns the fewest notes that must be wrong.
func (k known) wrong() ([]int, api.Errno) {
	for _, list := range choices(len(k.Notes)) {
		if know(without(k.BandBook, list)).allTotals().right() {
			return list, api.OK
		}
	}
	return nil, api.ErrBandFalse
}

func (k known) strange() []int {
	var strange []int
	for i, n := range k.Notes {
		if slices.ContainsFunc(numbersOf(n), func(number int) bool { return !slices.Contains(k.bands, number) }) {
			strange = append(strange, i)
		}
	}
	return strange
}

func (k known) clash() (int, int, api.Errno) {
	for first := range k.Notes {
		for next := first + 1; next < len(k.Notes); next++ {
			other := numbersOf(k.Notes[next])
			if slices.ContainsFunc(numbersOf(k.Notes[first]), func(number int) bool { return slices.Contains(other, number) }) {
				return first, next, api.OK
			}
		}
	}
	return 0, 0, api.ErrNone
}

func (k known) gaps() []api.BandRoll {
	var gaps []api.BandRoll
	for _, r := range k.Rolls {
		many := 0
		for number := r.First; number <= r.First+r.Many; number++ {
			in := slices.ContainsFunc(k.Notes, func(n api.BandNote) bool { return slices.Contains(numbersOf(n), number) })
			if number < r.First+r.Many && !in {
				many++
				continue
			}
			if many > 0 {
				gaps = append(gaps, roll(number-many, many))
			}
			many = 0
		}
	}
	return gaps
}

// someRolls returns rolls of about so many bands in all, often side by side.
func someRolls(r *rand.Rand, bands int) []api.BandRoll {
	var list []api.BandRoll
	first := []int{1, 95, 9930 - 3*bands}[r.Intn(3)]
	for range 1 + r.Intn(3) {
		many := 1 + r.Intn(min(bands, api.BandMany))
		list = append(list, roll(first, many))
		first += many + r.Intn(2)*r.Intn(4)
		if bands -= many; bands < 1 {
			break
		}
	}
	return list
}

// someNote returns a note of up to so many numbers, most of which bands have.
func someNote(r *rand.Rand, rolls []api.BandRoll, long int) api.BandNote {
	x := rolls[r.Intn(len(rolls))]
	from := x.First + r.Intn(x.Many)
	last := from + r.Intn(min(long, x.First+x.Many-from))
	if r.Intn(12) == 0 {
		from = max(1, from-1)
	}
	if r.Intn(12) == 0 {
		last = min(last+1+r.Intn(2), api.BandNumber, from+api.BandLong-1)
	}
	return note(r.Intn(3), from, last)
}

// someBook returns a book of about so many bands, with up to so many notes of up to so many numbers, most of which have no number in common.
func someBook(r *rand.Rand, bands, notes, long int) api.BandBook {
	b := api.BandBook{Rolls: someRolls(r, bands)}
	for range r.Intn(notes + 1) {
		n := someNote(r, b.Rolls, long)
		if c := withNotes(b, append(slices.Clone(b.Notes), n)...); r.Intn(6) == 0 || len(know(c).strange()) == 0 && isApart(know(c)) {
			b = c
		}
	}
	k := know(b)
	boxes := r.Intn(min(api.FillHands, len(k.bands)+1) + 1)
	c := closed(boxes, r.Intn(boxes+1), b.Rolls, b.Notes...)
	if r.Intn(6) == 0 {
		c.Fill, c.Plan = example().Fill, [][]int{{2, 5, 6, 7}, {1, 2, 5, 7}, {2, 3, 4, 5, 6, 7}, {3, 6, 7}}[r.Intn(4)]
	}
	return c
}

// isApart reports whether no two notes have a number in common.
func isApart(k known) bool {
	_, _, e := k.clash()
	return e == api.ErrNone
}

// someBooks returns small books, the same ones at each call.
func someBooks(n int) []api.BandBook {
	r := rand.New(rand.NewSource(1))
	var books []api.BandBook
	for len(books) < n {
		if b := someBook(r, 1+r.Intn(6), 4, 3); len(know(b).bands) <= 6 {
			books = append(books, b)
		}
	}
	return books
}

// largeBooks returns books of any size, the same ones at each call.
func largeBooks(n int) []api.BandBook {
	r := rand.New(rand.NewSource(2))
	var books []api.BandBook
	for i := range n {
		books = append(books, someBook(r, 5+r.Intn(55), api.BandNotes, []int{3, 8, 30}[i%3]))
	}
	return books
}

// disputedBooks returns books many of whose notes cannot be right, the same ones at each call.
func disputedBooks(n int) []api.BandBook {
	r := rand.New(rand.NewSource(4))
	var books []api.BandBook
	for range n {
		b := someBook(r, 12, 4, 4)
		for range r.Intn(5) {
			b.Notes = append(b.Notes, someNote(r, b.Rolls, 4))
		}
		books = append(books, b)
	}
	return books
}
