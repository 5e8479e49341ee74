package shift

import (
	"slices"

	"lucifer/api"
	"lucifer/paste"
)

// valid reports whether a book is valid.
func valid(b api.ShiftBook) bool {
	limits := [...]struct{ is, least, most int }{
		{len(b.Pastes), 1, api.ShiftPastes},
		{len(b.Workers), 0, api.ShiftWorkers},
		{len(b.Table), 1, api.ShiftRows},
	}
	for _, l := range limits {
		if !within(l.is, l.least, l.most) {
			return false
		}
	}
	for _, w := range b.Workers {
		if !within(w.Free, 0, api.ShiftHours) {
			return false
		}
	}
	for _, p := range b.Pastes {
		if is, e := paste.Right(p.Book); e != api.OK || !is || !within(p.Hours, 0, api.ShiftNeed) {
			return false
		}
	}
	return ordered(b.Table)
}

// ordered reports whether the rows of a table have ever more power, and never more hours.
func ordered(table []api.ShiftRow) bool {
	before := api.ShiftRow{Power: -1, Hours: api.ShiftHours}
	for _, r := range table {
		if !within(r.Power, before.Power+1, api.ShiftPower) || !within(r.Hours, 0, before.Hours) {
			return false
		}
		before = r
	}
	return true
}

// byTable returns the hours that a table tells of a power.
func byTable(table []api.ShiftRow, power int) int {
	for _, r := range table {
		if r.Power >= power {
			return r.Hours
		}
	}
	return 0
}

// place is a worker at a paste.
type place struct{ worker, paste int }

// ofWorkers is the hours of each worker, also of those that can be hired.
type ofWorkers [api.ShiftWorkers + api.ShiftHire]int

// atPastes is the hours of each paste.
type atPastes [api.ShiftPastes]int

// book is a valid book, with what is left to do of it.
type book struct {
	api.ShiftBook
	allowed map[place]int // for how many hours each worker can work at each paste
	limits  atPastes      // the hours of the pastes by the table
	groups  [][]int       // all lists of pastes, shorter ones first, and those of one length in their order
	places  []place       // where there can be turns, in their order
	free    ofWorkers     // for how many hours the workers are free
	need    atPastes      // how many hours are needed
}

// open returns the book of a valid one.
func open(b api.ShiftBook) book {
	k := book{ShiftBook: b, allowed: map[place]int{}}
	var pastes []int
	for number, p := range b.Pastes {
		power, _ := paste.Power(p.Book)
		k.limits[number], k.need[number] = byTable(b.Table, power.High), p.Hours
		pastes = append(pastes, number)
	}
	k.groups = slices.SortedStableFunc(lists(pastes), func(one, other []int) int { return len(one) - len(other) })
	k.Workers = nil
	for _, w := range b.Workers {
		k.employ(w)
	}
	return k
}

// employ adds a worker.
func (k *book) employ(w api.ShiftWorker) {
	worker := len(k.Workers)
	k.Workers = append(k.Workers, w)
	k.free[worker] = w.Free
	for number := range k.Pastes {
		p := place{worker: worker, paste: number}
		k.allowed[p] = k.limits[number]
		if w.Young {
			k.allowed[p] /= 2
		}
		k.places = append(k.places, p)
	}
}

// only returns the book with turns at some of its places alone.
func (k book) only(places []place) book {
	k.places = places
	return k
}

// after returns the book after a turn at one of its places, with turns at those behind it alone.
func (k book) after(p place, hours int) book {
	n := len(k.places)
	k.places = k.places[slices.Index(k.places, p)+1 : n : n]
	k.free[p.worker] -= hours
	k.need[p.paste] -= hours
	return k
}
