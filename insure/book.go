package insure

import (
	"lucifer/api"
	"lucifer/tunnel"
	"lucifer/yard"
)

// valid reports whether a book is valid.
func valid(b api.InsureBook) bool {
	r := b.Rates
	for _, rate := range [...]int{r.Good, r.Near, r.Served, r.Heat, r.Frame} {
		if !within(rate, 0, api.InsureRate) {
			return false
		}
	}
	return yard.Check(b.Yard) == api.OK && tunnel.Check(b.Tunnel) == api.OK
}

// isPlan reports whether a valid book can have the plan.
func isPlan(b api.InsureBook, p api.InsurePlan) bool {
	_, choice := yard.Allowed(b.Yard, p.Choice)
	_, set := tunnel.Heat(b.Tunnel, p.Set)
	return choice == api.OK && set == api.OK
}

// pair is two lots, the lesser number first.
type pair struct{ one, other int }

// pairOf returns the pair of two lots.
func pairOf(one, other int) pair { return pair{one: min(one, other), other: max(one, other)} }

// book is a valid book, with what is known of its lots, and what was found out of its tunnel so far.
type book struct {
	api.InsureBook
	tooNear map[pair]int      // in which truths two lots are too near to each other: 2 in each, 1 in some, 0 in none
	served  [api.YardLots]int // in which ones a lot is served
	dried   map[damper][]heads
}

// open returns the book of a valid one.
func open(b api.InsureBook) book {
	k := book{InsureBook: b, tooNear: map[pair]int{}, served: served(b.Yard), dried: map[damper][]heads{}}
	for other := range len(b.Yard.Lots) {
		for one := range other {
			k.tooNear[pairOf(one, other)], _ = yard.Near(b.Yard, one, other)
		}
	}
	return k
}

// served returns in which truths each lot of a yard is served.
func served(y api.YardBook) [api.YardLots]int {
	var kinds [api.YardLots]int
	for lot := range len(y.Lots) {
		kinds[lot], _ = yard.Served(y, lot)
	}
	return kinds
}

// withBucket returns the book if there is one more bucket.
func (k book) withBucket(at api.YardSpot) book {
	// No yard can have four buckets. But no distance depends on another one: so with the new bucket a lot is served as surely
	// as with the old ones, or as with the new one alone.
	alone := k.Yard
	alone.Buckets = []api.YardSpot{at}
	for lot, kind := range served(alone) {
		k.served[lot] = max(k.served[lot], kind)
	}
	return k
}
