package yard

import "lucifer/api"

// truth is a truth of a yard in which all that is known only between bounds lies at an end of it.
type truth struct {
	book
	between func(api.Span) int // the end at which distances of two lots lie
	away    func(api.Span) int // that of distances from doors and buckets
	room    func(api.Span) int // that of the goods of a stack
}

func low(s api.Span) int { return s.Low }

func high(s api.Span) int { return s.High }

// worst returns the truth in which a choice is allowed just if it is in each truth, with the fewest goods.
func (k book) worst() truth { return truth{book: k, between: low, away: high, room: low} }

// kindest returns the truth in which a choice is allowed just if it is in some truth, with the most goods.
func (k book) kindest() truth { return truth{book: k, between: high, away: low, room: high} }

// kind returns 2 if something is so in each truth, 1 if in some, and 0 if in none.
func (k book) kind(is func(t truth) bool) int {
	// No distance depends on another one, so both of these are truths, and all other ones lie between them: what is so in
	// both is so in each truth, and what is so in neither is so in none.
	n := 0
	for _, t := range [...]truth{k.worst(), k.kindest()} {
		if is(t) {
			n++
		}
	}
	return n
}

// near reports whether two lots are too near to each other.
func (t truth) near(one, other int) bool {
	return t.between(t.far[way{from: t.Lots[one].At, to: t.Lots[other].At}]) < t.Apart
}

// reaches reports whether a lot is at most so far from some spot.
func (t truth) reaches(lot int, spots []api.YardSpot, most int) bool {
	for _, at := range spots {
		if t.away(t.far[way{from: t.Lots[lot].At, to: at}]) <= most {
			return true
		}
	}
	return false
}

func (t truth) hasDoor(lot int) bool { return t.reaches(lot, t.Doors, t.Door) }

func (t truth) hasBucket(lot int) bool { return t.reaches(lot, t.Buckets, t.Bucket) }

// needs tells what each stack must be near to.
func needs() [2]func(t truth, lot int) bool {
	return [...]func(truth, int) bool{truth.hasDoor, truth.hasBucket}
}

// served reports whether a lot is near enough to all that a stack must be near to.
func (t truth) served(lot int) bool {
	for _, has := range needs() {
		if !has(t, lot) {
			return false
		}
	}
	return true
}

// unserved reports whether a lot is too far from something that a stack must be near to.
func (t truth) unserved(lot int) bool { return !t.served(lot) }

// breaks returns all pairs of lots of a choice that are too near, and all of its lots that are not served.
func (t truth) breaks(c lots) ([]api.YardPair, lots) {
	return c.pairs(t.near), c.only(t.unserved)
}

// allowed reports whether a choice is allowed.
func (t truth) allowed(c lots) bool {
	pairs, unserved := t.breaks(c)
	return len(pairs) == 0 && unserved == (lots{})
}

// goods returns how many goods a choice has.
func (t truth) goods(c lots) int {
	var goods []int
	for _, lot := range c.list() {
		goods = append(goods, t.room(t.Lots[lot].Room))
	}
	return sum(goods...)
}

// sum returns the sum of several numbers.
func sum[N ~int](numbers ...N) N {
	var all N
	for _, n := range numbers {
		all += n
	}
	return all
}
