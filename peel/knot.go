package peel

import (
	"iter"

	"lucifer/api"
)

// place is where a knot truly is: its angle, and the turn in which it shows first.
type place struct{ angle, turn int }

// shows reports whether a log of so many turns has the place in its ribbon.
func (p place) shows(turns int) bool {
	return p.angle >= 0 && p.angle < api.PeelAngle && p.turn >= 0 && p.turn < turns
}

// knot is a knot, as far as it is known where it is.
type knot struct{ api.PeelKnot }

func (k knot) low() place { return place{angle: k.Angle.Low, turn: k.First.Low} }

func (k knot) high() place { return place{angle: k.Angle.High, turn: k.First.High} }

// ends tells of a knot the first and the last place where it can be.
func ends() [2]func(knot) place {
	return [...]func(knot) place{knot.low, knot.high}
}

// valid reports whether a log of so many turns can have the knot.
func (k knot) valid(turns int) bool {
	for _, end := range ends() {
		// A knot can also begin behind the last turn: it does not show then.
		if !end(k).shows(turns + 1) {
			return false
		}
	}
	return narrow(k.Angle, api.PeelWide) && narrow(k.First, api.PeelDeep)
}

// narrow reports whether the ends of s, which are small numbers, are in order and not too far apart.
func narrow(s api.Span, most int) bool {
	return s.Low <= s.High && s.High-s.Low <= most
}

// places produces all places where the knot, which is valid, can be.
func (k knot) places() iter.Seq[place] {
	return func(yield func(place) bool) {
		at, last := k.low(), k.high()
		for yield(at) && at != last {
			at.turn++
			if at.turn > last.turn {
				at = place{angle: at.angle + 1, turn: k.First.Low}
			}
		}
	}
}
