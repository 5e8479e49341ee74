package insure

import (
	"iter"
	"slices"

	"lucifer/api"
)

// lots tells of each lot whether it is chosen, or burns.
type lots [api.YardLots]bool

// lotsOf returns the lots of a list.
func lotsOf(list []int) lots {
	var c lots
	for _, lot := range list {
		c[lot] = true
	}
	return c
}

// with returns the lots and one more.
func (c lots) with(lot int) lots {
	c[lot] = true
	return c
}

// each produces the numbers of all chosen lots, increasing.
func (c lots) each() iter.Seq[int] {
	return func(yield func(lot int) bool) {
		for lot, chosen := range c {
			if chosen && !yield(lot) {
				return
			}
		}
	}
}

// list returns the numbers of all chosen lots, increasing.
func (c lots) list() []int {
	list := slices.Collect(c.each())
	n := len(list)
	return list[:n:n]
}

// choices produces all choices of so many lots, in their order.
func choices(many int) iter.Seq[lots] {
	return func(yield func(c lots) bool) {
		var choose func(c lots, from int) bool
		choose = func(c lots, from int) bool {
			if !yield(c) {
				return false
			}
			for more := range many - from {
				lot := from + more
				if !choose(c.with(lot), lot+1) {
					return false
				}
			}
			return true
		}
		choose(lots{}, 0)
	}
}

// reached returns all lots to which fire goes from lots that burn, and which do not burn yet.
func (c lots) reached(burning lots, goes func(x pair) bool) lots {
	var reached lots
	for lot := range c.each() {
		for from := range burning.each() {
			if !burning[lot] && goes(pairOf(from, lot)) {
				reached[lot] = true
			}
		}
	}
	return reached
}

// fire returns all lots that burn if one of them does.
func (c lots) fire(lot int, goes func(x pair) bool) lots {
	var burning lots
	fresh := burning.with(lot)
	for fresh != (lots{}) {
		for next := range fresh.each() {
			burning[next] = true
		}
		fresh = c.reached(burning, goes)
	}
	return burning
}
