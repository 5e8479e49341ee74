package yard

import (
	"slices"

	"lucifer/api"
)

// valid reports whether a yard is valid.
func valid(b api.YardBook) bool {
	limits := [...]struct{ is, least, most int }{
		{len(b.Lots), 1, api.YardLots},
		{len(b.Doors), 1, api.YardSpots},
		{len(b.Buckets), 0, api.YardSpots},
		{len(b.Spare), 0, api.YardSpots},
		{b.Apart, 0, api.YardFar},
		{b.Door, 0, api.YardFar},
		{b.Bucket, 0, api.YardFar},
		{b.Error, 0, api.YardError},
	}
	for _, l := range limits {
		if !within(l.is, l.least, l.most) {
			return false
		}
	}
	for _, l := range b.Lots {
		if !isSpot(l.At) || !within(l.Room.Low, 0, l.Room.High) || l.Room.High > api.YardRoom {
			return false
		}
	}
	for _, at := range slices.Concat(b.Doors, b.Buckets, b.Spare) {
		if !isSpot(at) {
			return false
		}
	}
	return true
}

// isLot reports whether a number is one of a lot.
func isLot(b api.YardBook, lot int) bool { return within(lot, 0, len(b.Lots)-1) }

// withBucket returns a yard with one bucket more.
func withBucket(b api.YardBook, at api.YardSpot) api.YardBook {
	// The third index lets append copy: the list is the caller's.
	n := len(b.Buckets)
	b.Buckets = append(b.Buckets[:n:n], at)
	return b
}

// book is a valid yard, with between what lies the true distance of each lot from all spots that count.
type book struct {
	api.YardBook
	far map[way]api.Span
}

// open returns the book of a yard that is valid, or has one bucket more than that.
func open(b api.YardBook) book {
	k := book{YardBook: b, far: map[way]api.Span{}}
	spots := slices.Concat(b.Doors, b.Buckets)
	for _, l := range b.Lots {
		spots = append(spots, l.At)
	}
	for _, l := range b.Lots {
		for _, at := range spots {
			w := way{from: l.At, to: at}
			k.far[w] = around(w.told(), b.Error)
		}
	}
	return k
}

// all returns all lots.
func (k book) all() lots {
	var all lots
	for lot := range len(k.Lots) {
		all[lot] = true
	}
	return all
}

// place returns the first spare spot at which one more bucket lets there be the most goods at least, and whether one lets there be more.
func (k book) place() (int, bool) {
	most := k.worst().best().goods
	place, some := 0, false
	for spare, at := range k.Spare {
		if slices.Contains(k.Buckets, at) {
			continue // the bucket that stands there surely serves the same lots
		}
		goods := open(withBucket(k.YardBook, at)).worst().best().goods
		if goods > most {
			most, place, some = goods, spare, true
		}
	}
	return place, some
}
