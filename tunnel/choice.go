package tunnel

import "lucifer/api"

// outcome is a setting, with what it leads to.
type outcome struct {
	set  setting
	heat int
	dry  []int // the frames that surely are dry in time
}

func (p passage) outcome() outcome {
	return outcome{set: p.set, heat: p.heat(), dry: p.frames(p.dry)}
}

// cooler reports whether one setting has less heat than another one.
func cooler(one, other outcome) bool { return one.heat < other.heat }

// drier reports whether by one setting more frames are dry in time than by another one, or as many with less heat.
func drier(one, other outcome) bool {
	if len(one.dry) != len(other.dry) {
		return len(one.dry) > len(other.dry)
	}
	return cooler(one, other)
}

// choice is the best one of the settings so far.
type choice struct {
	outcome
	some   bool
	better func(one, other outcome) bool
}

// offer takes a setting that is better than the best one so far.
func (c *choice) offer(o outcome) {
	if !c.some || c.better(o, c.outcome) {
		c.outcome, c.some = o, true
	}
}

// coolest returns the first setting of the least heat by which all of these frames surely are dry in time, and whether there is one.
func (b book) coolest(frames ...int) (setting, bool) {
	best := choice{better: cooler}
settings:
	for set := range settings(len(b.Parts)) {
		p := b.by(set)
		for _, f := range frames {
			if !p.dry(f) {
				continue settings
			}
		}
		best.offer(p.outcome())
		if best.set == (setting{}) {
			break // no setting has less heat than closed dampers, nor is one before it
		}
	}
	return best.set, best.some
}

// most returns the first setting of the least heat by which the most frames surely are dry in time.
func (b book) most() outcome {
	best := choice{better: drier}
	for set := range settings(len(b.Parts)) {
		best.offer(b.by(set).outcome())
	}
	return best.outcome
}

// lost reports whether no setting surely dries a frame in time.
func (b book) lost(frame int) bool {
	_, some := b.coolest(frame)
	return !some
}

// worst returns how many frames at the worst surely are dry in time by one setting, once the damp of a part is known.
func worst(b api.TunnelBook, part int) int {
	least := len(b.Frames)
	for damp := b.Parts[part].Damp.Low; damp <= b.Parts[part].Damp.High; damp++ {
		least = min(least, len(open(measured(b, part, damp)).most().dry))
	}
	return least
}
