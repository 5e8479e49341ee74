package shift

import (
	"slices"

	"lucifer/api"
)

// doctor returns for how many hours the doctor lets a worker work at a paste.
func (k book) doctor(p place) int { return k.allowed[p] }

// time returns for how many hours the worker is free.
func (k book) time(p place) int { return k.free[p.worker] }

// rest returns how many hours are needed at the paste.
func (k book) rest(p place) int { return k.need[p.paste] }

// bounds tells what bounds the hours of a turn.
func bounds() [3]func(book, place) int {
	return [...]func(book, place) int{book.doctor, book.time, book.rest}
}

// most returns how many hours a turn can have, at most.
func (k book) most(p place) int {
	var hours [3]int
	for i, bound := range bounds() {
		hours[i] = bound(k, p)
	}
	return least(hours[:]...)
}

// works returns for how many hours a worker can work at some pastes, at most.
func (k book) works(worker int, group []int) int {
	hours := 0
	for _, p := range k.places {
		if p.worker == worker && slices.Contains(group, p.paste) {
			hours += k.allowed[p]
		}
	}
	return least(hours, k.free[worker])
}

// needs returns how many hours are needed at some pastes.
func (k book) needs(group []int) int {
	hours := 0
	for _, paste := range group {
		hours += k.need[paste]
	}
	return hours
}

// short returns the fewest pastes at which more hours are needed than all workers can work, and whether there are some.
func (k book) short() ([]int, bool) {
groups:
	for _, group := range k.groups {
		need := k.needs(group)
		for worker := range k.free {
			need -= k.works(worker, group)
			if need <= 0 {
				continue groups
			}
		}
		return group, true
	}
	return nil, false
}

// enough reports whether there is a plan.
func (k book) enough() bool {
	if k.free == (ofWorkers{}) {
		return k.need == (atPastes{})
	}
	// Hours flow from workers to pastes, and the least cut of a flow parts some pastes from all others. So there is a plan just
	// if at no pastes more hours are needed than all workers together can work there while they work at nothing else.
	_, some := k.short()
	return !some
}

// longer returns how many hours more can be needed at a paste.
func (k book) longer(paste int) int {
	more := -1
	for k.enough() {
		more++
		k.need[paste]++
	}
	return more
}

// spares reports whether there is a plan without a worker.
func (k book) spares(worker int) bool {
	k.free[worker] = 0
	return k.enough()
}

// hire returns how many workers more are needed, and whether so many can be hired.
func (k book) hire() (int, bool) {
	for more := range api.ShiftHire + 1 {
		if more > 0 {
			k.employ(api.ShiftWorker{Free: api.ShiftHours})
		}
		if k.enough() {
			return more, true
		}
	}
	return 0, false
}
