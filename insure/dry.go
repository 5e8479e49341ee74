package insure

import (
	"iter"

	"lucifer/api"
	"lucifer/tunnel"
)

// setting is what the damper of each part is set to; those of parts that there are not are closed.
type setting [api.TunnelParts]int

// settingOf returns the setting of a list.
func settingOf(list []int) setting {
	var s setting
	copy(s[:], list)
	return s
}

// list returns the numbers of a setting of so many parts.
func (s setting) list(parts int) []int {
	// The list can lie in the setting's memory, for s is a copy.
	return s[:parts:parts]
}

// settings produces all settings of so many parts, in their order.
func settings(parts int) iter.Seq[setting] {
	return func(yield func(s setting) bool) {
		var turn func(s setting, part int) bool
		turn = func(s setting, part int) bool {
			if part == parts {
				return yield(s)
			}
			for damper := range api.TunnelDamper + 1 {
				s[part] = damper
				if !turn(s, part+1) {
					return false
				}
			}
			return true
		}
		turn(setting{}, 0)
	}
}

// heads is how dry each frame is.
type heads [api.TunnelFrames]int

// and returns how dry frames are that are dried once more.
func (h heads) and(more heads) heads {
	for frame := range h {
		h[frame] += more[frame]
	}
	return h
}

// damper is what the damper of a part is set to.
type damper struct{ part, set int }

// alone returns a tunnel of one of the parts alone, whose damp is known.
func (k book) alone(part, damp int) api.TunnelBook {
	at := k.Tunnel.Parts[part]
	at.Damp = api.Span{Low: damp, High: damp}
	alone := api.TunnelBook{Parts: []api.TunnelPart{at}}
	for _, f := range k.Tunnel.Frames {
		f.Stay = f.Stay[part : part+1 : part+1]
		alone.Frames = append(alone.Frames, f)
	}
	return alone
}

// dries returns how dry a part alone lets frames be: for each number that its damp can be.
func (k book) dries(d damper) []heads {
	all, found := k.dried[d]
	if found {
		return all
	}
	damp := k.Tunnel.Parts[d.part].Damp
	for more := range damp.High - damp.Low + 1 {
		alone := k.alone(d.part, damp.Low+more)
		var h heads
		for frame := range alone.Frames {
			s, _ := tunnel.Dries(alone, []int{d.set}, frame)
			h[frame] = s.Low // there is one truth
		}
		all = append(all, h)
	}
	k.dried[d] = all
	return all
}

// dryness produces how dry all frames are by a setting, in each truth of the tunnel.
func (k book) dryness(s setting) iter.Seq[heads] {
	return func(yield func(h heads) bool) {
		var pass func(h heads, part int) bool
		pass = func(h heads, part int) bool {
			if part == len(k.Tunnel.Parts) {
				return yield(h)
			}
			for _, more := range k.dries(damper{part: part, set: s[part]}) {
				if !pass(h.and(more), part+1) {
					return false
				}
			}
			return true
		}
		pass(heads{}, 0)
	}
}

// spoiled returns how many frames are not dry in time that are so dry.
func (k book) spoiled(h heads) int {
	n := 0
	for frame, f := range k.Tunnel.Frames {
		if !within(h[frame], f.Need.Low, f.Need.High) {
			n++
		}
	}
	return n
}
