package fold

import "lucifer/api"

// flaps tells of each flap whether something is so.
type flaps [api.FoldFlaps]bool

// box is a sheet of which some flaps are folded in.
type box struct {
	sheet
	folded flaps
	order  []int // in which they were
}

// done reports whether a flap is folded in.
func (x box) done(flap int) bool { return x.folded[flap] }

// waits reports whether a flap must lie over one that is not folded in.
func (x box) waits(flap int) bool {
	for under := range len(x.Flaps) {
		if !x.folded[under] && x.must(flap, under) {
			return true
		}
	}
	return false
}

// free returns the flaps that can be folded in next.
func (x box) free() flaps {
	var free flaps
flaps:
	for flap := range len(x.Flaps) {
		for _, stopped := range [...]func(flap int) bool{x.done, x.waits} {
			if stopped(flap) {
				continue flaps
			}
		}
		free[flap] = true
	}
	return free
}

// with returns the box with one flap more folded in.
func (x box) with(flap int) box {
	x.folded[flap] = true
	x.order = longer(x.order, flap)
	return x
}
