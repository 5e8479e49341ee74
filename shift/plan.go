package shift

import (
	"slices"

	"lucifer/api"
)

// isPlan reports whether turns are a plan.
func (k book) isPlan(turns []api.ShiftTurn) bool {
	for _, t := range turns {
		p := place{worker: t.Worker, paste: t.Paste}
		// Only places behind the last turn are left, so no turn is out of order, or at a place twice.
		if !slices.Contains(k.places, p) || !within(t.Hours, 1, k.most(p)) {
			return false
		}
		k = k.after(p, t.Hours)
	}
	return k.need == (atPastes{})
}

// suffices reports whether there is a plan whose turns are at some places alone.
func (k book) suffices(places []place) bool { return k.only(places).enough() }

// useful returns all places at which there can be a turn.
func (k book) useful() []place {
	return slices.DeleteFunc(slices.Clone(k.places), func(p place) bool { return k.most(p) == 0 })
}

// choice is the best one of the lists of places so far.
type choice struct {
	places []place
	some   bool
	better func(one, other []place) bool
}

// offer takes places of which something is so, if they are better than the best ones so far.
func (c *choice) offer(places []place, is func([]place) bool) {
	if (!c.some || c.better(places, c.places)) && is(places) {
		c.places, c.some = places, true
	}
}

// best returns the best plan of a book for which there is one.
func (k book) best() []api.ShiftTurn {
	best := choice{better: shorter[place]}
	for places := range lists(k.useful()) {
		best.offer(places, k.suffices)
	}
	return k.only(best.places).fill()
}

// fill returns the plan of a turn at each place, the first ones with as many hours as leave enough workers for those behind them.
// There must be no plan of fewer turns: only so is there at least an hour for each place.
func (k book) fill() []api.ShiftTurn {
	var turns []api.ShiftTurn
	var next func(k book)
	next = func(k book) {
		if len(k.places) == 0 {
			return
		}
		p := k.places[0]
		most := k.most(p)
		for less := range most {
			if rest := k.after(p, most-less); rest.enough() {
				turns = append(turns, api.ShiftTurn{Worker: p.worker, Paste: p.paste, Hours: most - less})
				next(rest)
				return
			}
		}
	}
	next(k)
	return turns
}
