package peel

import (
	"cmp"
	"iter"

	"lucifer/api"
)

// columns tells of each column of a ribbon whether something is so.
type columns [api.PeelTurns * api.PeelLong]bool

// has reports whether it is so of a column.
func (c columns) has(column int) bool { return c[column] }

// with returns the columns of which it is so in c or in d.
func (c columns) with(d columns) columns {
	for i, is := range d {
		c[i] = c[i] || is
	}
	return c
}

// valid reports whether a log is valid.
func valid(l api.PeelLog) bool {
	numbers := [...]struct{ is, low, high int }{
		{len(l.Long), 1, api.PeelTurns},
		{l.Size, 1, api.PeelSize},
		{len(l.Knots), 0, api.PeelKnots},
	}
	for _, n := range numbers {
		if n.is < n.low || n.is > n.high {
			return false
		}
	}
	before := api.PeelLong
	for _, long := range l.Long {
		if long < 1 || long > before {
			return false
		}
		before = long
	}
	for _, k := range l.Knots {
		if !(knot{k}).valid(len(l.Long)) {
			return false
		}
	}
	return true
}

// ribbon is a valid log with the ribbon that it gives.
type ribbon struct {
	api.PeelLog
	wide   int                // columns of all turns
	starts [api.PeelTurns]int // the first column of each turn
	trails map[place]columns  // of each place where a knot can be: the columns that it has then
}

// unroll returns the ribbon of a valid log.
func unroll(l api.PeelLog) ribbon {
	r := ribbon{PeelLog: l, trails: map[place]columns{}}
	for turn, long := range l.Long {
		r.starts[turn] = r.wide
		r.wide += long
	}
	for _, k := range l.Knots {
		for at := range (knot{k}).places() {
			r.trails[at] = r.trail(at)
		}
	}
	return r
}

// column returns the column of a place that shows.
func (r ribbon) column(at place) int {
	return r.starts[at.turn] + at.angle*r.Long[at.turn]/api.PeelAngle
}

// trail returns the columns of a knot that truly is at a place.
func (r ribbon) trail(at place) columns {
	var c columns
	for ; at.shows(len(r.Long)); at.turn++ {
		c[r.column(at)] = true
	}
	return c
}

// truths produces of each truth the columns that have a knot.
func (r ribbon) truths() iter.Seq[columns] {
	return func(yield func(columns) bool) {
		var put func(k int, knotty columns) bool
		put = func(k int, knotty columns) bool {
			if k == len(r.Knots) {
				return yield(knotty)
			}
			for at := range (knot{r.Knots[k]}).places() {
				if !put(k+1, knotty.with(r.trails[at])) {
					return false
				}
			}
			return true
		}
		put(0, columns{})
	}
}

// reach returns the columns that some of the ribbon's knots perhaps have.
func (r ribbon) reach(knots []api.PeelKnot) columns {
	var c columns
	for _, k := range knots {
		for at := range (knot{k}).places() {
			c = c.with(r.trails[at])
		}
	}
	return c
}

// whole returns the first columns of all pieces that have no knotty column.
func (r ribbon) whole(knotty columns) columns {
	var c columns
pieces:
	for first := range r.wide - r.Size + 1 {
		for i := range r.Size {
			if knotty[first+i] {
				continue pieces
			}
		}
		c[first] = true
	}
	return c
}

// isCut reports whether columns are a cutting of the ribbon.
func (r ribbon) isCut(cut []int) bool {
	free := 0
	for _, first := range cut {
		if first < free || first > r.wide-r.Size {
			return false
		}
		free = first + r.Size
	}
	return true
}

// pieces returns how many pieces without a knotty column can be cut, at most.
func (r ribbon) pieces(knotty columns) int { return len(r.knife(knotty).cut()) }

// worst returns how many pieces surely are whole in the best cutting at the worst, once it is known where a knot is.
func (r ribbon) worst(k int) int {
	// The third index lets append copy: the knots are the caller's.
	others := r.reach(append(r.Knots[:k:k], r.Knots[k+1:]...))
	least := r.wide
	for at := range (knot{r.Knots[k]}).places() {
		least = min(least, r.pieces(others.with(r.trails[at])))
	}
	return least
}

// knife cuts a ribbon.
type knife struct {
	wide, size int
	counts     func(first int) bool // whether the piece with this first column is counted
}

// knife returns the one that counts the pieces without a knotty column.
func (r ribbon) knife(knotty columns) knife {
	return knife{wide: r.wide, size: r.Size, counts: r.whole(knotty).has}
}

// count returns how many pieces of a cutting are counted.
func (k knife) count(cut []int) int {
	n := 0
	for _, first := range cut {
		if k.counts(first) {
			n++
		}
	}
	return n
}

// cut returns the first cutting of the most pieces that all are counted.
func (k knife) cut() []int {
	// All pieces have the same size, so to cut each one as early as can be leaves the most room for those behind it.
	var cut []int
	for first := 0; first+k.size <= k.wide; first++ {
		if k.counts(first) {
			cut = append(cut, first)
			first += k.size - 1
		}
	}
	return cut[:len(cut):len(cut)]
}

// greatest returns the greatest of several numbers.
func greatest[N cmp.Ordered](n N, more ...N) N {
	for _, m := range more {
		n = max(n, m)
	}
	return n
}
