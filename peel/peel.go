// Package peel chops the ribbon of a log to whole pieces, around knots of which it is known only between bounds where they are.
package peel

import (
	"slices"

	"lucifer/api"
)

// Check checks a log.
func Check(l api.PeelLog) api.Errno {
	if !valid(l) {
		return api.ErrPeel
	}
	return api.OK
}

// Ribbon returns how many columns the ribbon has.
func Ribbon(l api.PeelLog) (int, api.Errno) {
	if e := Check(l); e != api.OK {
		return 0, e
	}
	return unroll(l).wide, api.OK
}

// Column returns the column that has an angle of a turn.
func Column(l api.PeelLog, turn, angle int) (int, api.Errno) {
	if e := Check(l); e != api.OK {
		return 0, e
	}
	at := place{angle: angle, turn: turn}
	if !at.shows(len(l.Long)) {
		return 0, api.ErrPeelAsk
	}
	return unroll(l).column(at), api.OK
}

// Knotty returns whether a column has a knot: surely, perhaps, or not.
func Knotty(l api.PeelLog, column int) (int, api.Errno) {
	if e := Check(l); e != api.OK {
		return 0, e
	}
	r := unroll(l)
	if column < 0 || column >= r.wide {
		return 0, api.ErrPeelAsk
	}
	some, all := false, true
	for knotty := range r.truths() {
		some = some || knotty[column]
		all = all && knotty[column]
	}
	switch {
	case all:
		return api.PeelKnotty, api.OK
	case some:
		return api.PeelMay, api.OK
	}
	return api.PeelWhole, api.OK
}

// IsCut reports whether columns are a cutting.
func IsCut(l api.PeelLog, cut []int) (bool, api.Errno) {
	if e := Check(l); e != api.OK {
		return false, e
	}
	return unroll(l).isCut(cut), api.OK
}

// Sure returns how many pieces of a cutting surely are whole.
func Sure(l api.PeelLog, cut []int) (int, api.Errno) {
	r, e := ask(l, cut)
	if e != api.OK {
		return 0, e
	}
	return r.knife(r.reach(r.Knots)).count(cut), api.OK
}

// Whole returns how few and how many pieces of a cutting can be whole.
func Whole(l api.PeelLog, cut []int) (api.Span, api.Errno) {
	r, e := ask(l, cut)
	if e != api.OK {
		return api.Span{}, e
	}
	s := api.Span{Low: len(cut)}
	for knotty := range r.truths() {
		n := r.knife(knotty).count(cut)
		s = api.Span{Low: min(s.Low, n), High: greatest(s.High, n)}
	}
	return s, api.OK
}

// ask returns the ribbon of a log, if both the log and a cutting of it are right.
func ask(l api.PeelLog, cut []int) (ribbon, api.Errno) {
	if e := Check(l); e != api.OK {
		return ribbon{}, e
	}
	r := unroll(l)
	if !r.isCut(cut) {
		return ribbon{}, api.ErrPeelAsk
	}
	return r, api.OK
}

// Best returns the first cutting of the most pieces that all surely are whole.
func Best(l api.PeelLog) ([]int, api.Errno) {
	if e := Check(l); e != api.OK {
		return nil, e
	}
	r := unroll(l)
	return r.knife(r.reach(r.Knots)).cut(), api.OK
}

// Waste returns how many columns are left beside the best cutting.
func Waste(l api.PeelLog) (int, api.Errno) {
	if e := Check(l); e != api.OK {
		return 0, e
	}
	r := unroll(l)
	return r.wide - r.Size*r.pieces(r.reach(r.Knots)), api.OK
}

// Hope returns the most pieces that are whole in one truth.
func Hope(l api.PeelLog) (int, api.Errno) {
	if e := Check(l); e != api.OK {
		return 0, e
	}
	r := unroll(l)
	most := 0
	for knotty := range r.truths() {
		most = greatest(most, r.pieces(knotty))
		if knotty == (columns{}) {
			break // no truth has more than one without knots
		}
	}
	return most, api.OK
}

// Ask returns the knot of which it is best to know where it is.
func Ask(l api.PeelLog) (int, api.Errno) {
	if e := Check(l); e != api.OK {
		return 0, e
	}
	if len(l.Knots) == 0 {
		return 0, api.ErrNone
	}
	r := unroll(l)
	worst := make([]int, len(r.Knots))
	for k := range worst {
		worst[k] = r.worst(k)
	}
	return slices.Index(worst, greatest(worst[0], worst[1:]...)), api.OK
}
