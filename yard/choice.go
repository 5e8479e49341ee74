package yard

import (
	"iter"
	"slices"

	"lucifer/api"
)

// lots tells of each lot whether it is chosen.
type lots [api.YardLots]bool

// read returns which ones of so many lots a list chooses, and whether the list is a choice.
func read(list []int, many int) (lots, bool) {
	var c lots
	next := 0
	for _, lot := range list {
		if !within(lot, next, many-1) {
			return lots{}, false
		}
		c[lot] = true
		next = lot + 1
	}
	return c, true
}

// list returns the numbers of the chosen lots, increasing.
func (c lots) list() []int {
	var list []int
	for lot, chosen := range c {
		if chosen {
			list = append(list, lot)
		}
	}
	return list[:len(list):len(list)]
}

// with returns the choice with one lot more.
func (c lots) with(lot int) lots {
	c[lot] = true
	return c
}

// only returns the chosen lots of which something is so.
func (c lots) only(is func(lot int) bool) lots {
	for lot, chosen := range c {
		c[lot] = chosen && is(lot)
	}
	return c
}

// pairs returns all pairs of chosen lots of which something is so.
func (c lots) pairs(is func(one, other int) bool) []api.YardPair {
	var pairs []api.YardPair
	list := c.list()
	for i, one := range list {
		for _, other := range list[i+1:] {
			if is(one, other) {
				pairs = append(pairs, api.YardPair{One: one, Other: other})
			}
		}
	}
	return pairs[:len(pairs):len(pairs)]
}

// choices produces all choices of some of the lots that are allowed.
func (t truth) choices(of lots) iter.Seq[lots] {
	return func(yield func(lots) bool) {
		var add func(chosen, left lots) bool
		add = func(chosen, left lots) bool {
			if !yield(chosen) {
				return false
			}
		lots:
			for lot := range len(t.Lots) {
				if !left[lot] {
					continue
				}
				left[lot] = false
				for _, other := range chosen.list() {
					if t.near(lot, other) {
						continue lots
					}
				}
				if !add(chosen.with(lot), left) {
					return false
				}
			}
			return true
		}
		add(lots{}, of.only(t.served))
	}
}

// before reports whether of two lists of lots one has fewer lots, or as many and comes first.
func before(one, other []int) bool {
	if len(one) != len(other) {
		return len(one) < len(other)
	}
	return slices.Compare(one, other) < 0
}

// store is a choice, with its goods.
type store struct {
	list  []int
	goods int
}

// better reports whether a choice has more goods than another one, or as many on fewer lots, or on those that come first.
func (s store) better(than store) bool {
	if s.goods != than.goods {
		return s.goods > than.goods
	}
	return before(s.list, than.list)
}

// best returns the best one of all choices that are allowed.
func (t truth) best() store {
	var best store // that of no lots is allowed
	for c := range t.choices(t.all()) {
		if s := (store{list: c.list(), goods: t.goods(c)}); s.better(best) {
			best = s
		}
	}
	return best
}

// more returns all lots of which each alone can be added to a choice so that it is allowed.
func (t truth) more(c lots) lots {
	return t.all().only(func(lot int) bool { return !c[lot] && t.allowed(c.with(lot)) })
}

// clear returns the fewest lots of a choice without which it is allowed.
func (t truth) clear(c lots) []int {
	gone := c.list()
	for kept := range t.choices(c) {
		if rest := c.only(func(lot int) bool { return !kept[lot] }).list(); before(rest, gone) {
			gone = rest
		}
	}
	return gone
}
