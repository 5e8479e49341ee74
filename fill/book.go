package fill

import (
	"slices"

	"lucifer/api"
)

// within reports whether a number lies between two others.
func within(n, least, most int) bool { return least <= n && n <= most }

// hand is a handful.
type hand struct{ api.Span }

func (h hand) least() int { return h.Low }

func (h hand) most() int { return h.High }

// ends returns both ends of what is known of a handful.
func ends() [2]func(hand) int { return [...]func(hand) int{hand.least, hand.most} }

// valid reports whether a book can have the handful.
func (h hand) valid() bool {
	return within(h.Low, 0, api.FillHand) && within(h.High, h.Low, min(h.Low+api.FillWide, api.FillHand))
}

// valid reports whether a book is valid.
func valid(b api.FillBook) bool {
	limits := [...]struct{ is, least, most int }{
		{b.Promise, 1, api.FillPromise},
		{b.Less, 0, min(b.Promise-1, api.FillWithin)},
		{b.More, 0, api.FillWithin},
		{b.Group, 1, api.FillGroup},
		{len(b.Hands), 0, api.FillHands},
	}
	for _, l := range limits {
		if !within(l.is, l.least, l.most) {
			return false
		}
	}
	for _, h := range b.Hands {
		if !(hand{h}).valid() {
			return false
		}
	}
	return true
}

// box is the handfuls from one on to the one before another number.
type box struct{ from, to int }

// of returns those of all handfuls.
func (x box) of(all []api.Span) []api.Span { return all[x.from:x.to:x.to] }

// book is a valid book, with how many splints there are in each box that there can be.
type book struct {
	api.FillBook
	sums map[box]api.Span
}

// open returns the book of a valid one.
func open(b api.FillBook) book {
	k := book{FillBook: b, sums: map[box]api.Span{}}
	for from := range len(b.Hands) {
		for more := range min(b.Group, len(b.Hands)-from) {
			x := box{from: from, to: from + more + 1}
			k.sums[x] = together(x.of(b.Hands))
		}
	}
	return k
}

// few reports whether a box of so many splints may have too few.
func (b book) few(splints api.Span) bool { return splints.Low < b.Promise-b.Less }

// many reports whether a box of so many splints may have too many.
func (b book) many(splints api.Span) bool { return splints.High > b.Promise+b.More }

// kind returns whether a box of so many splints has as many as its label allows.
func (b book) kind(splints api.Span) int {
	// FillBoth is the sum of the kinds of both faults.
	kind := api.FillRight
	if b.few(splints) {
		kind += api.FillFew
	}
	if b.many(splints) {
		kind += api.FillMany
	}
	return kind
}

// whichever returns how many splints so many handfuls have, whichever they are.
func (b book) whichever(many int) api.Span {
	end := ends()
	low, high := numbers(b.Hands, end[0]), numbers(b.Hands, end[1])
	slices.Sort(low)
	slices.Sort(high)
	return api.Span{Low: sum(low[:many:many]...), High: sum(high[len(high)-many:]...)}
}

// counted returns a book in which it is known how many splints a handful has.
func counted(b api.FillBook, number, splints int) api.FillBook {
	b.Hands = slices.Clone(b.Hands)
	b.Hands[number] = api.Span{Low: splints, High: splints}
	return b
}

// together returns how many splints several handfuls or boxes have in all.
func together(several []api.Span) api.Span {
	end := ends()
	return api.Span{Low: sum(numbers(several, end[0])...), High: sum(numbers(several, end[1])...)}
}

// numbers returns the number at an end of each of several handfuls.
func numbers(several []api.Span, end func(hand) int) []int {
	var list []int
	for _, h := range several {
		list = append(list, end(hand{h}))
	}
	return list
}

// sum returns the sum of several numbers.
func sum[N ~int](numbers ...N) N {
	var all N
	for _, n := range numbers {
		all += n
	}
	return all
}
