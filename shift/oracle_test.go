package shift_test

import (
	"cmp"
	"iter"
	"math/rand"
	"slices"

	"lucifer/api"
	"lucifer/paste"
)

// What follows computes from the definitions alone, by trying out everything: the tests hold the package against it.

// picks returns all lists that have a number of each span.
func picks(spans []api.Span) [][]int {
	all := [][]int{nil}
	for _, s := range spans {
		var next [][]int
		for _, before := range all {
			for n := s.Low; n <= s.High; n++ {
				next = append(next, append(slices.Clone(before), n))
			}
		}
		all = next
	}
	return all
}

// powerIn returns the power of a paste in a truth.
func powerIn(b api.PasteBook, amounts []int) int {
	power := 0
	for i, n := range amounts {
		power += n * b.Salts[i].Power
	}
	for _, p := range b.Pairs {
		if amounts[p.One] > 0 && amounts[p.Other] > 0 {
			power += p.More
		}
	}
	return power
}

// rightIn reports whether all trials are right, if the power and all rubs and damps are told.
func rightIn(b api.PasteBook, power int, rubs, damps []int) bool {
	for i, t := range b.Trials {
		if (power+rubs[t.Surface]-damps[i] >= b.Need) != t.Lit {
			return false
		}
	}
	return true
}

// powersOf returns the powers that a paste has in its truths, increasing.
func powersOf(b api.PasteBook) []int {
	var amounts, rubs, damps []api.Span
	for _, s := range b.Salts {
		amounts = append(amounts, s.Amount)
	}
	for i, s := range b.Surfaces {
		if !slices.ContainsFunc(b.Trials, func(t api.PasteTrial) bool { return t.Surface == i }) {
			s.Rub = one(s.Rub.Low) // where there was no trial it tells nothing of the power
		}
		rubs = append(rubs, s.Rub)
	}
	for _, t := range b.Trials {
		damps = append(damps, b.Surfaces[t.Surface].Damp)
	}
	var powers []int
	for _, a := range picks(amounts) {
		power := powerIn(b, a)
		for _, r := range picks(rubs) {
			if slices.ContainsFunc(picks(damps), func(d []int) bool { return rightIn(b, power, r, d) }) {
				powers = append(powers, power)
				break
			}
		}
	}
	slices.Sort(powers)
	return slices.Compact(powers)
}

// tableOf returns the hours that the doctor's table tells of a power.
func tableOf(b api.ShiftBook, power int) int {
	for _, r := range b.Table {
		if power <= r.Power {
			return r.Hours
		}
	}
	return 0
}

// known is a book with for how many hours each worker can work at each paste.
type known struct {
	api.ShiftBook
	can [][]int
}

func know(b api.ShiftBook) known {
	k := known{ShiftBook: b}
	var hours []int
	for _, p := range b.Pastes {
		hours = append(hours, tableOf(b, slices.Max(powersOf(p.Book))))
	}
	for _, w := range b.Workers {
		can := slices.Clone(hours)
		for i := range can {
			if w.Young {
				can[i] = can[i] / 2
			}
		}
		k.can = append(k.can, can)
	}
	return k
}

// state returns the free hours of all workers, and the hours that are needed at all pastes.
func (k known) state() (free, need []int) {
	for _, w := range k.Workers {
		free = append(free, w.Free)
	}
	for _, p := range k.Pastes {
		need = append(need, p.Hours)
	}
	return free, need
}

// plans produces all plans.
func (k known) plans() iter.Seq[[]api.ShiftTurn] {
	return func(yield func([]api.ShiftTurn) bool) {
		free, need := k.state()
		var set func(worker, paste int, turns []api.ShiftTurn) bool
		set = func(worker, paste int, turns []api.ShiftTurn) bool {
			if worker == len(free) {
				return slices.Max(need) > 0 || yield(slices.Clone(turns))
			}
			if paste == len(need) {
				return set(worker+1, 0, turns)
			}
			if !set(worker, paste+1, turns) {
				return false
			}
			for hours := 1; hours <= min(k.can[worker][paste], free[worker], need[paste]); hours++ {
				free[worker] -= hours
				need[paste] -= hours
				on := set(worker, paste+1, append(turns, api.ShiftTurn{Worker: worker, Paste: paste, Hours: hours}))
				free[worker] += hours
				need[paste] += hours
				if !on {
					return false
				}
			}
			return true
		}
		set(0, 0, nil)
	}
}

// isPlan reports whether turns are a plan, by the chapter's definition.
func (k known) isPlan(turns []api.ShiftTurn) bool {
	free, need := k.state()
	for i, t := range turns {
		if t.Worker < 0 || t.Worker >= len(free) || t.Paste < 0 || t.Paste >= len(need) || t.Hours < 1 || t.Hours > k.can[t.Worker][t.Paste] {
			return false
		}
		if i > 0 && (turns[i-1].Worker > t.Worker || turns[i-1].Worker == t.Worker && turns[i-1].Paste >= t.Paste) {
			return false
		}
		free[t.Worker] -= t.Hours
		need[t.Paste] -= t.Hours
	}
	return !slices.ContainsFunc(free, func(n int) bool { return n < 0 }) && !slices.ContainsFunc(need, func(n int) bool { return n != 0 })
}

// sooner orders plans: the one of fewer turns, then the one of the first workers and pastes, then the one of the most hours.
func sooner(one, other []api.ShiftTurn) int {
	where := func(a, b api.ShiftTurn) int {
		return cmp.Or(cmp.Compare(a.Worker, b.Worker), cmp.Compare(a.Paste, b.Paste))
	}
	hours := func(a, b api.ShiftTurn) int { return cmp.Compare(b.Hours, a.Hours) }
	return cmp.Or(cmp.Compare(len(one), len(other)), slices.CompareFunc(one, other, where), slices.CompareFunc(one, other, hours))
}

// best returns the best one of all plans, and whether there is one.
func (k known) best() ([]api.ShiftTurn, bool) {
	var best []api.ShiftTurn
	some := false
	for plan := range k.plans() {
		if !some || sooner(plan, best) < 0 {
			best, some = plan, true
		}
	}
	return best, some
}

// day is a day that is filled hour by hour, by which the tests find out of large books whether there is a plan.
type day struct {
	free  []int
	can   [][]int // how many hours more each worker can work at each paste
	given [][]int
}

// give gives a paste an hour of a worker, if need be of one who works at another paste, to which another hour is given then.
func (d day) give(paste int, seen []bool) bool {
	seen[paste] = true
	for worker, can := range d.can {
		if can[paste] == 0 {
			continue
		}
		if d.free[worker] > 0 {
			d.free[worker]--
			d.move(worker, paste, 1)
			return true
		}
		for from, hours := range d.given[worker] {
			if hours > 0 && !seen[from] && d.give(from, seen) {
				d.move(worker, from, -1)
				d.move(worker, paste, 1)
				return true
			}
		}
	}
	return false
}

func (d day) move(worker, paste, hours int) {
	d.given[worker][paste] += hours
	d.can[worker][paste] -= hours
}

// suffice reports whether all hours that are needed can be worked.
func suffice(free []int, can [][]int, need []int) bool {
	d := day{free: slices.Clone(free)}
	for _, c := range can {
		d.can = append(d.can, slices.Clone(c))
		d.given = append(d.given, make([]int, len(need)))
	}
	for paste, hours := range need {
		for range hours {
			if !d.give(paste, make([]bool, len(need))) {
				return false
			}
		}
	}
	return true
}

// enough reports whether there is a plan.
func (k known) enough() bool {
	free, need := k.state()
	return suffice(free, k.can, need)
}

// at reports whether there is a plan that has turns just at these places, the first ones of them of so many hours.
func (k known) at(turns []api.ShiftTurn, hours ...int) bool {
	free, need := k.state()
	can := make([][]int, len(free))
	for worker := range can {
		can[worker] = make([]int, len(need))
	}
	for i, t := range turns {
		n := 1
		if i < len(hours) {
			n = hours[i]
		} else {
			can[t.Worker][t.Paste] = k.can[t.Worker][t.Paste] - n
		}
		free[t.Worker] -= n
		need[t.Paste] -= n
		if n > k.can[t.Worker][t.Paste] || free[t.Worker] < 0 || need[t.Paste] < 0 {
			return false
		}
	}
	return suffice(free, can, need)
}

// longBest returns the best plan of a large book that has one: by the order of P7.3 it tries out all places, then all hours.
func (k known) longBest() []api.ShiftTurn {
	var best []api.ShiftTurn
	var add func(turns []api.ShiftTurn, from, many int) bool
	add = func(turns []api.ShiftTurn, from, many int) bool {
		if many == 0 {
			best = slices.Clone(turns)
			return k.at(turns)
		}
		for place := from; place+many <= len(k.Workers)*len(k.Pastes); place++ {
			t := api.ShiftTurn{Worker: place / len(k.Pastes), Paste: place % len(k.Pastes)}
			if add(append(turns, t), place+1, many-1) {
				return true
			}
		}
		return false
	}
	for many := 0; !add(nil, 0, many); many++ {
	}
	var hours []int
	for i := range best {
		n := api.ShiftHours
		for !k.at(best, append(slices.Clone(hours), n)...) {
			n--
		}
		best[i].Hours = n
		hours = append(hours, n)
	}
	return best
}

// these returns the book of some of its pastes alone.
func (k known) these(pastes []int) known {
	c := known{ShiftBook: k.ShiftBook}
	c.Pastes = nil
	for _, i := range pastes {
		c.Pastes = append(c.Pastes, k.Pastes[i])
	}
	for _, can := range k.can {
		var hours []int
		for _, i := range pastes {
			hours = append(hours, can[i])
		}
		c.can = append(c.can, hours)
	}
	return c
}

// groups returns all lists of so many pastes, but that of none: shorter ones first, and those of one length in their order.
func groups(pastes int) [][]int {
	return [][][]int{1: {{0}}, 2: {{0}, {1}, {0, 1}}, 3: {{0}, {1}, {2}, {0, 1}, {0, 2}, {1, 2}, {0, 1, 2}}}[pastes]
}

func (k known) short() ([]int, api.Errno) {
	for _, pastes := range groups(len(k.Pastes)) {
		if !k.these(pastes).enough() {
			return pastes, api.OK
		}
	}
	return nil, api.ErrNone
}

func (k known) longer(paste int) (int, api.Errno) {
	most, e := 0, api.ErrNone
	for more := range 13 * api.ShiftWorkers {
		if know(needing(k.ShiftBook, paste, k.Pastes[paste].Hours+more)).enough() {
			most, e = more, api.OK
		}
	}
	return most, e
}

func (k known) spared() ([]int, api.Errno) {
	if !k.enough() {
		return nil, api.ErrNone
	}
	var spared []int
	for worker := range k.Workers {
		if know(withWorkers(k.ShiftBook, slices.Delete(slices.Clone(k.Workers), worker, worker+1)...)).enough() {
			spared = append(spared, worker)
		}
	}
	return spared, api.OK
}

func (k known) hire() (int, api.Errno) {
	for more := range 21 {
		if know(hired(k.ShiftBook, more)).enough() {
			return more, api.OK
		}
	}
	return 0, api.ErrNone
}

// somePaste returns a paste that can be true.
func somePaste(r *rand.Rand) api.PasteBook {
	some := func(most, far int) api.Span {
		low := r.Intn(most + 1)
		return to(low, min(low+r.Intn(far+1), most))
	}
	for {
		b := api.PasteBook{Need: 1 + r.Intn(80)}
		for range 1 + r.Intn(2) {
			b.Salts = append(b.Salts, api.PasteSalt{Power: r.Intn(10), Amount: some(9, 3)})
		}
		if len(b.Salts) == 2 {
			b.Pairs = []api.PastePair{{One: 0, Other: 1, More: 1 + r.Intn(30)}}
		}
		for range 1 + r.Intn(2) {
			b.Surfaces = append(b.Surfaces, api.PasteSurface{Rub: some(20, 4), Damp: some(20, 4)})
		}
		for range r.Intn(3) {
			b.Trials = append(b.Trials, api.PasteTrial{Surface: r.Intn(len(b.Surfaces)), Lit: r.Intn(2) == 0})
		}
		if is, e := paste.Right(b); is && e == api.OK {
			return b
		}
	}
}

// someBook returns a valid book of so many pastes and workers, by whose table one works at a paste for up to so many hours.
// There are about as many hours of work as are needed.
func someBook(r *rand.Rand, pastes, workers, hours int) api.ShiftBook {
	var b api.ShiftBook
	var powers []int
	for range pastes {
		p := somePaste(r)
		powers = append(powers, max(0, slices.Max(powersOf(p))+r.Intn(3)-1+r.Intn(2)*50))
		b.Pastes = append(b.Pastes, api.ShiftPaste{Book: p})
	}
	slices.Sort(powers)
	powers = slices.Compact(powers)
	if r.Intn(2) == 0 {
		powers[len(powers)-1] = api.ShiftPower
	}
	most := hours
	for _, power := range powers {
		b.Table = append(b.Table, row(power, most))
		most = r.Intn(most+1)/2 + most/2
	}
	for range workers {
		b.Workers = append(b.Workers, worker(r.Intn(min(api.ShiftHours, pastes*hours)+1), r.Intn(3) == 0))
	}
	k, all := know(b), 0
	for worker, can := range k.can {
		n := 0
		for _, hours := range can {
			n += hours
		}
		all += min(n, k.Workers[worker].Free)
	}
	for i := range b.Pastes {
		n := 0
		for worker, can := range k.can {
			n += min(can[i], k.Workers[worker].Free)
		}
		b.Pastes[i].Hours = min(r.Intn(2+min(n, 2*all/pastes)), api.ShiftNeed)
	}
	return b
}

// someBooks returns small books, the same ones at each call.
func someBooks(n int) []api.ShiftBook {
	r := rand.New(rand.NewSource(1))
	var books []api.ShiftBook
	for i := range n {
		switch i % 4 {
		case 0:
			books = append(books, someBook(r, 1, r.Intn(5), 5))
		case 1:
			books = append(books, someBook(r, 2, r.Intn(4), 6))
		case 2:
			books = append(books, someBook(r, 3, r.Intn(3), 5))
		case 3:
			books = append(books, someBook(r, 3, 3+r.Intn(2), 2))
		}
	}
	return books
}

// largeBooks returns books of any size, the same ones at each call.
func largeBooks(n int) []api.ShiftBook {
	r := rand.New(rand.NewSource(2))
	var books []api.ShiftBook
	for range n {
		books = append(books, someBook(r, 1+r.Intn(3), r.Intn(5), api.ShiftHours))
	}
	return books
}
