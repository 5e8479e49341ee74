package paste

import (
	"iter"
	"slices"

	"lucifer/api"
)

const (
	mostPower = api.PasteSalts*api.PastePower*api.PasteAmount + api.PastePairs*api.PasteMore
	mostForce = mostPower + api.PasteRub
)

// parts is how many parts of each salt there truly are.
type parts [api.PasteSalts]int

// powers tells of each power whether a paste can have it.
type powers [mostPower + 1]bool

// couple is the two salts of a pair.
type couple struct{ one, other int }

// within reports whether a span is in order, and lies between 0 and most.
func within(s api.Span, most int) bool {
	return s.Low >= 0 && s.Low <= s.High && s.High <= most
}

// valid reports whether a book is valid.
func valid(b api.PasteBook) bool {
	numbers := [...]struct{ is, low, high int }{
		{len(b.Salts), 1, api.PasteSalts},
		{len(b.Pairs), 0, api.PastePairs},
		{len(b.Surfaces), 1, api.PasteSurfaces},
		{b.Need, 1, api.PasteNeed},
		{len(b.Trials), 0, api.PasteTrials},
	}
	for _, n := range numbers {
		if n.is < n.low || n.is > n.high {
			return false
		}
	}
	for _, s := range b.Salts {
		if s.Power < 0 || s.Power > api.PastePower || !within(s.Amount, api.PasteAmount) || s.Amount.High-s.Amount.Low > api.PasteSpan {
			return false
		}
	}
	for _, s := range b.Surfaces {
		if !within(s.Rub, api.PasteRub) || !within(s.Damp, api.PasteRub) {
			return false
		}
	}
	for _, t := range b.Trials {
		if t.Surface < 0 || t.Surface >= len(b.Surfaces) {
			return false
		}
	}
	return paired(b.Pairs, len(b.Salts))
}

// paired reports whether pairs of so many salts are valid.
func paired(pairs []api.PastePair, salts int) bool {
	known := map[couple]bool{}
	for _, p := range pairs {
		c := couple{one: p.One, other: p.Other}
		if c.one < 0 || c.one >= c.other || c.other >= salts || p.More < 1 || p.More > api.PasteMore || known[c] {
			return false
		}
		known[c] = true
	}
	return true
}

// mix is a valid book (but that there can be more trials, and more damp) with the powers that its trials leave.
type mix struct {
	api.PasteBook
	powers powers
}

// before returns the mix of a book before all trials.
func before(b api.PasteBook) mix {
	b.Trials = nil
	m := mix{PasteBook: b}
	for p := range m.amounts() {
		m.powers[m.power(p)] = true
	}
	return m
}

// after returns the mix after trials, of which those of m are some.
func (m mix) after(trials []api.PasteTrial) mix {
	m.Trials = trials
	for s := range m.Surfaces {
		f := m.face(s)
		for power := range mostPower + 1 {
			if m.powers[power] {
				_, m.powers[power] = f.force(power)
			}
		}
	}
	return m
}

// amounts produces all that there can be of the salts.
func (m mix) amounts() iter.Seq[parts] {
	return func(yield func(parts) bool) {
		var now parts
		var pour func(salt int) bool
		pour = func(salt int) bool {
			if salt == len(m.Salts) {
				return yield(now)
			}
			known := m.Salts[salt].Amount
			for now[salt] = known.Low; now[salt] <= known.High; now[salt]++ {
				if !pour(salt + 1) {
					return false
				}
			}
			return true
		}
		pour(0)
	}
}

// power returns the power of so many parts.
func (m mix) power(p parts) int {
	var all []int
	for salt, s := range m.Salts {
		all = append(all, s.Power*p[salt])
	}
pairs:
	for _, pair := range m.Pairs {
		for _, salt := range [...]int{pair.One, pair.Other} {
			if p[salt] == 0 {
				continue pairs
			}
		}
		all = append(all, pair.More)
	}
	return sum(all...)
}

// right reports whether the book can be true.
func (m mix) right() bool { return m.powers != powers{} }

// span returns the least and the greatest power of a mix that can be true.
func (m mix) span() api.Span {
	s, _ := ends(m.powers[:])
	return s
}

// lights returns whether a head lights on a surface: surely, perhaps, or not.
func (m mix) lights(surface int) int {
	f, known := m.face(surface), m.span()
	// The trials bound the force from below and above, so its ends never sink when the power grows.
	least, _ := f.force(known.Low)
	most, _ := f.force(known.High)
	return f.touch(api.Span{Low: least.Low, High: most.High}).kind()
}

// safe reports whether a head surely lights on its box, and on nothing else.
func (m mix) safe() bool { return m.lights(0) == surely && m.harmless() }

// harmless reports whether a head lights on nothing but its box.
func (m mix) harmless() bool {
	for s := 1; s < len(m.Surfaces); s++ {
		if m.lights(s) != never {
			return false
		}
	}
	return true
}

// damped returns the mix, which has no trials, with so much more damp on all surfaces.
func (m mix) damped(more int) mix {
	m.Surfaces = slices.Clone(m.Surfaces)
	for i := range m.Surfaces {
		m.Surfaces[i].Damp.Low += more
		m.Surfaces[i].Damp.High += more
	}
	return m
}

// leaves returns how far the ends of the power are apart at the worst after one more trial on a surface.
func (m mix) leaves(surface int) int {
	far := 0
	for _, lit := range [...]bool{true, false} {
		// The third index lets append copy: the trials are the caller's.
		n := len(m.Trials)
		t := m.after(append(m.Trials[:n:n], api.PasteTrial{Surface: surface, Lit: lit}))
		if t.right() {
			s := t.span()
			far = max(far, s.High-s.Low)
		}
	}
	return far
}

// sum returns the sum of several numbers.
func sum[N ~int](numbers ...N) N {
	var all N
	for _, n := range numbers {
		all += n
	}
	return all
}
