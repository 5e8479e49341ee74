package tunnel

import (
	"slices"

	"lucifer/api"
)

const (
	topDamp  = 20
	wideDamp = 3 // how far apart the ends of a damp are, at most
)

// part is a part of the tunnel.
type part struct{ api.TunnelPart }

func (p part) leastDamp() int { return p.Damp.Low }

func (p part) mostDamp() int { return p.Damp.High }

// valid reports whether a tunnel can have the part.
func (p part) valid() bool {
	before := 0
	for _, heat := range p.Heat {
		if heat < before || heat > api.TunnelHeat {
			return false
		}
		before = heat
	}
	numbers := [...]struct{ is, low, high int }{
		{p.Damp.Low, 0, topDamp},
		{p.Damp.High, 0, topDamp},
		{p.Damp.High - p.Damp.Low, 0, wideDamp},
	}
	for _, n := range numbers {
		if n.is < n.low || n.is > n.high {
			return false
		}
	}
	return true
}

// frame is a frame that goes through the tunnel.
type frame struct{ api.TunnelFrame }

// tooWet reports whether the frame drops its heads if it is so dry.
func (f frame) tooWet(dry int) bool { return dry < f.Need.Low }

// tooDry reports whether the heads of the frame crack if it is so dry.
func (f frame) tooDry(dry int) bool { return dry > f.Need.High }

// valid reports whether a tunnel of so many parts can have the frame.
func (f frame) valid(parts int) bool {
	for _, stay := range f.Stay {
		if stay < 0 || stay > api.TunnelStay {
			return false
		}
	}
	return len(f.Stay) == parts && f.Need.Low >= 0 && f.Need.Low <= f.Need.High && f.Need.High <= api.TunnelNeed
}

// end is an end of what is known of the damp, with what may become of a frame there.
type end struct {
	damp  func(part) int
	wrong func(f frame, dry int) bool
	kind  int // what becomes of a frame that is wrong; what becomes of it at both ends is the sum
}

// ends tells of both ends, the one at which frames are the least dry first.
func ends() [2]end {
	return [...]end{
		{damp: part.mostDamp, wrong: frame.tooWet, kind: api.TunnelSlow},
		{damp: part.leastDamp, wrong: frame.tooDry, kind: api.TunnelQuick},
	}
}

// valid reports whether a book is valid.
func valid(b api.TunnelBook) bool {
	if len(b.Parts) < 1 || len(b.Parts) > api.TunnelParts || len(b.Frames) > api.TunnelFrames {
		return false
	}
	for _, p := range b.Parts {
		if !(part{p}).valid() {
			return false
		}
	}
	for _, f := range b.Frames {
		if !(frame{f}).valid(len(b.Parts)) {
			return false
		}
	}
	return true
}

// measured returns a book in which the damp of a part is known.
func measured(b api.TunnelBook, part, damp int) api.TunnelBook {
	b.Parts = slices.Clone(b.Parts)
	b.Parts[part].Damp = api.Span{Low: damp, High: damp}
	return b
}

// delayed returns a book in which a frame stays in a part for so many minutes more.
func delayed(b api.TunnelBook, frame, part, more int) api.TunnelBook {
	b.Frames = slices.Clone(b.Frames)
	f := &b.Frames[frame]
	f.Stay = slices.Clone(f.Stay)
	f.Stay[part] += more
	return b
}
