package paste

import (
	"slices"

	"lucifer/api"
)

// Whether a head lights on a surface: on how many of the questions of asked the answer is yes.
const (
	never  = 0
	surely = 2
)

// forces tells of each sum of a power and a rub whether it can be.
type forces [mostForce + 1]bool

// face is a surface of a mix, with the forces by which all trials on it are right.
type face struct {
	api.PasteSurface
	need  int
	right forces
}

// face returns a surface, with what its trials tell.
func (m mix) face(surface int) face {
	f := face{PasteSurface: m.Surfaces[surface], need: m.Need}
	trials := slices.Clone(m.Trials)
	trials = slices.DeleteFunc(trials, func(t api.PasteTrial) bool { return t.Surface != surface })
	for force := range mostForce + 1 {
		f.right[force] = !slices.ContainsFunc(trials, f.touch(api.Span{Low: force, High: force}).refutes)
	}
	return f
}

// force returns the least and the greatest force of a head of some power, and whether there is one.
func (f face) force(power int) (api.Span, bool) {
	first, end := power+f.Rub.Low, power+f.Rub.High+1
	s, can := ends(f.right[first:end:end])
	if !can {
		return api.Span{}, false
	}
	return api.Span{Low: first + s.Low, High: first + s.High}, true
}

// ends returns the first and the last place of a true one in a list, and whether there is one.
func ends(list []bool) (api.Span, bool) {
	s := api.Span{Low: slices.Index(list, true), High: len(list) - 1}
	if s.Low < 0 {
		return api.Span{}, false
	}
	for !list[s.High] {
		s.High--
	}
	return s, true
}

// touch is what is known when a head is rubbed on a surface.
type touch struct {
	force, damp api.Span
	need        int
}

// touch returns that of a head which has one of the forces.
func (f face) touch(force api.Span) touch {
	return touch{force: force, damp: f.Damp, need: f.need}
}

// side is which end is meant of what is known.
type side struct {
	force, damp func(api.Span) int
}

func low(s api.Span) int { return s.Low }

func high(s api.Span) int { return s.High }

// lights reports whether a head lights if what is meant is so.
func (t touch) lights(s side) bool { return s.force(t.force)-s.damp(t.damp) >= t.need }

// may reports whether a head perhaps lights.
func (t touch) may() bool { return t.lights(side{force: high, damp: low}) }

// must reports whether a head surely lights.
func (t touch) must() bool { return t.lights(side{force: low, damp: high}) }

// asked tells what is asked of a surface; who must also may.
func asked() [surely]func(touch) bool {
	return [...]func(touch) bool{touch.may, touch.must}
}

// kind returns whether a head lights: surely, perhaps, or not.
func (t touch) kind() int {
	kind := never
	for _, is := range asked() {
		if is(t) {
			kind++
		}
	}
	return kind
}

// refutes reports whether a trial cannot be right, whatever the damp was.
func (t touch) refutes(trial api.PasteTrial) bool {
	if trial.Lit {
		return !t.may()
	}
	return t.must()
}
