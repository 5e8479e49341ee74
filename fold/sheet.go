package fold

import (
	"cmp"
	"iter"
	"slices"

	"lucifer/api"
)

// valid reports whether a sheet is valid.
func valid(b api.FoldSheet) bool {
	numbers := [...]struct{ is, low, high int }{
		{b.Wide, 1, api.FoldSide},
		{b.High, 1, api.FoldSide},
		{len(b.Flaps), 1, api.FoldFlaps},
		{len(b.Rules), 0, api.FoldRules},
	}
	for _, n := range numbers {
		if n.is < n.low || n.is > n.high {
			return false
		}
	}
	for _, f := range b.Flaps {
		if !(flap{FoldFlap: f, wide: b.Wide, high: b.High}).valid() {
			return false
		}
	}
	for i, r := range b.Rules {
		if !isCouple(b, r.Over, r.Under) || slices.Contains(b.Rules[:i], r) {
			return false
		}
	}
	return true
}

// isFlap reports whether a number is one of a flap.
func isFlap(b api.FoldSheet, flap int) bool { return flap >= 0 && flap < len(b.Flaps) }

// isCouple reports whether numbers are those of two different flaps.
func isCouple(b api.FoldSheet, one, other int) bool {
	return isFlap(b, one) && isFlap(b, other) && one != other
}

// isOrder reports whether a list is an order.
func isOrder(b api.FoldSheet, list []int) bool {
	for i, flap := range list {
		if !isFlap(b, flap) || slices.Contains(list[:i], flap) {
			return false
		}
	}
	return len(list) == len(b.Flaps)
}

// couple is two flaps.
type couple struct{ one, other int }

// sheet is a valid sheet in the truth in which all flaps reach to the same end of what is known.
type sheet struct {
	api.FoldSheet
	end func(reach api.Span) int
	met map[couple]bool // the flaps that meet, either one of them first
}

func low(s api.Span) int { return s.Low }

func high(s api.Span) int { return s.High }

// reaching returns a valid sheet whose flaps all reach to an end.
func reaching(b api.FoldSheet, end func(reach api.Span) int) sheet {
	s := sheet{FoldSheet: b, end: end, met: map[couple]bool{}}
	for one := range len(s.Flaps) {
		for other := range one {
			met := s.area(one).meets(s.area(other))
			s.met[couple{one: one, other: other}] = met
			s.met[couple{one: other, other: one}] = met
		}
	}
	return s
}

// worst returns a valid sheet in the truth in which all flaps meet that do in some.
func worst(b api.FoldSheet) sheet { return reaching(b, high) }

// area returns what a flap covers.
func (s sheet) area(number int) area {
	f := flap{FoldFlap: s.Flaps[number], wide: s.Wide, high: s.High}
	return f.covers(s.end(f.Reach))
}

// must reports whether a flap meets another one that it must lie over.
func (s sheet) must(over, under int) bool {
	return s.met[couple{one: over, other: under}] && slices.Contains(s.Rules, api.FoldRule{Over: over, Under: under})
}

// kind returns 2 if something is so of a valid sheet in each truth, 1 if in some, and 0 if in none.
func kind(b api.FoldSheet, is func(s sheet) bool) int {
	// Flaps that reach farther meet all that they met before, and more rules can stop an order then. So both ends tell
	// of all truths: what is so at both of them is so in each truth, and what is so at neither is so in none.
	n := 0
	for _, end := range [...]func(api.Span) int{low, high} {
		if is(reaching(b, end)) {
			n++
		}
	}
	return n
}

// does reports whether an order does.
func (s sheet) does(order []int) bool {
	now := box{sheet: s}
	for _, flap := range order {
		if now.waits(flap) {
			return false
		}
		now = now.with(flap)
	}
	return true
}

// orders produces all orders that do, in their order.
func (s sheet) orders() iter.Seq[[]int] {
	return func(yield func([]int) bool) {
		var next func(now box) bool
		next = func(now box) bool {
			if len(now.order) == len(s.Flaps) {
				return yield(now.order)
			}
			free := now.free()
			for flap := range len(s.Flaps) {
				if free[flap] && !next(now.with(flap)) {
					return false
				}
			}
			return true
		}
		next(box{sheet: s})
	}
}

// folds reports whether some order does.
func (s sheet) folds() bool {
	now := box{sheet: s}
	for len(now.order) < len(s.Flaps) {
		free := now.free()
		if free == (flaps{}) {
			return false
		}
		// To fold a flap in never stops another one, so all that are free can go before the rest.
		for flap := range len(s.Flaps) {
			if free[flap] {
				now = now.with(flap)
			}
		}
	}
	return true
}

// rings produces all rings of so many flaps, in their order.
func (s sheet) rings(many int) iter.Seq[[]int] {
	return func(yield func([]int) bool) {
		var next func(ring []int) bool
		next = func(ring []int) bool {
			first, last := ring[0], ring[len(ring)-1]
			if len(ring) == many {
				return !s.must(first, last) || yield(ring)
			}
			for flap := first + 1; flap < len(s.Flaps); flap++ {
				if s.must(flap, last) && !slices.Contains(ring, flap) && !next(longer(ring, flap)) {
					return false
				}
			}
			return true
		}
		for flap := range len(s.Flaps) {
			if !next([]int{flap}) {
				return
			}
		}
	}
}

// round returns in which round, from 1 on, a flap of a sheet that folds can be folded in at the soonest.
func (s sheet) round(flap int) int {
	var sooner []int
	for under := range len(s.Flaps) {
		if s.must(flap, under) {
			sooner = append(sooner, s.round(under))
		}
	}
	return 1 + greatest(0, sooner...)
}

// greatest returns the greatest of several numbers.
func greatest[N cmp.Ordered](n N, more ...N) N {
	for _, m := range more {
		n = max(n, m)
	}
	return n
}
