package paste_test

import (
	"math/rand"
	"slices"

	"lucifer/api"
)

// What follows computes from the definitions alone, by trying out everything: the tests hold the package against it.

// truth is a number in each span: what there truly is of each salt, the rub of each surface, the damp of each trial.
type truth struct{ amounts, rubs, damps []int }

func powerIn(b api.PasteBook, t truth) int {
	power := 0
	for i, n := range t.amounts {
		power += n * b.Salts[i].Power
	}
	for _, p := range b.Pairs {
		if t.amounts[p.One] > 0 && t.amounts[p.Other] > 0 {
			power += p.More
		}
	}
	return power
}

func lightsIn(b api.PasteBook, t truth, surface, damp int) bool {
	return powerIn(b, t)+t.rubs[surface]-damp >= b.Need
}

func rightIn(b api.PasteBook, t truth) bool {
	for i, trial := range b.Trials {
		if lightsIn(b, t, trial.Surface, t.damps[i]) != trial.Lit {
			return false
		}
	}
	return true
}

// picks returns all lists that have a number of each span.
func picks(spans []api.Span) [][]int {
	all := [][]int{nil}
	for _, s := range spans {
		var next [][]int
		for _, before := range all {
			for n := s.Low; n <= s.High; n++ {
				next = append(next, append(slices.Clone(before), n))
			}
		}
		all = next
	}
	return all
}

func spansOf(b api.PasteBook) (amounts, rubs, damps []api.Span) {
	for _, s := range b.Salts {
		amounts = append(amounts, s.Amount)
	}
	for _, s := range b.Surfaces {
		rubs = append(rubs, s.Rub)
	}
	for _, t := range b.Trials {
		damps = append(damps, b.Surfaces[t.Surface].Damp)
	}
	return amounts, rubs, damps
}

// truthsOf returns all truths in which all trials are right.
func truthsOf(b api.PasteBook) []truth {
	amounts, rubs, damps := spansOf(b)
	var all []truth
	for _, a := range picks(amounts) {
		for _, r := range picks(rubs) {
			for _, d := range picks(damps) {
				if t := (truth{a, r, d}); rightIn(b, t) {
					all = append(all, t)
				}
			}
		}
	}
	return all
}

func powersOf(b api.PasteBook, truths []truth) api.Span {
	s := one(powerIn(b, truths[0]))
	for _, t := range truths {
		s = to(min(s.Low, powerIn(b, t)), max(s.High, powerIn(b, t)))
	}
	return s
}

func lightsOf(b api.PasteBook, truths []truth, surface int) int {
	some, all := false, true
	for _, t := range truths {
		for d := b.Surfaces[surface].Damp.Low; d <= b.Surfaces[surface].Damp.High; d++ {
			is := lightsIn(b, t, surface, d)
			some, all = some || is, all && is
		}
	}
	switch {
	case all:
		return 2
	case some:
		return 1
	}
	return 0
}

func safeOf(b api.PasteBook, truths []truth) bool {
	for s := range b.Surfaces {
		if kind := lightsOf(b, truths, s); s == 0 && kind != 2 || s > 0 && kind != 0 {
			return false
		}
	}
	return true
}

func blameOf(b api.PasteBook, surface int) ([]int, api.Errno) {
	b.Trials = nil
	if lightsOf(b, truthsOf(b), surface) == 0 {
		return nil, api.ErrNone
	}
	var blamed []int
	for i := range b.Pairs {
		c := withPairs(b, slices.Delete(slices.Clone(b.Pairs), i, i+1)...)
		if lightsOf(c, truthsOf(c), surface) == 0 {
			blamed = append(blamed, i)
		}
	}
	return blamed, api.OK
}

// less returns the book with so much less of a salt, at most.
func less(b api.PasteBook, salt, n int) api.PasteBook {
	b.Salts = slices.Clone(b.Salts)
	b.Salts[salt].Amount.High -= n
	return b
}

// beside returns on how many surfaces but the box a head perhaps lights.
func beside(b api.PasteBook, truths []truth) int {
	n := 0
	for s := 1; s < len(b.Surfaces); s++ {
		if lightsOf(b, truths, s) > 0 {
			n++
		}
	}
	return n
}

func lessOf(b api.PasteBook, salt int) (int, api.Errno) {
	b.Trials = nil
	for n := 0; b.Salts[salt].Amount.High-n >= b.Salts[salt].Amount.Low; n++ {
		if c := less(b, salt, n); beside(c, truthsOf(c)) == 0 {
			return n, api.OK
		}
	}
	return 0, api.ErrNone
}

// damper returns the book with so much more damp.
func damper(b api.PasteBook, n int) api.PasteBook {
	b.Surfaces = slices.Clone(b.Surfaces)
	for i := range b.Surfaces {
		b.Surfaces[i].Damp = to(b.Surfaces[i].Damp.Low+n, b.Surfaces[i].Damp.High+n)
	}
	return b
}

// dampersOf returns of each number from 0 to 200 whether the paste is safe with so much more damp.
func dampersOf(b api.PasteBook) []bool {
	b.Trials = nil
	truths := truthsOf(b) // without trials they do not depend on the damp
	var all []bool
	for n := range 201 {
		all = append(all, safeOf(damper(b, n), truths))
	}
	return all
}

// parted returns the numbers of the trials of a set, and the other trials.
func parted(b api.PasteBook, set int) (list []int, left []api.PasteTrial) {
	for i, t := range b.Trials {
		if set>>i&1 == 1 {
			list = append(list, i)
		} else {
			left = append(left, t)
		}
	}
	return list, left
}

// sooner orders lists by their lengths, and then by their elements.
func sooner(a, b []int) int {
	if len(a) != len(b) {
		return len(a) - len(b)
	}
	return slices.Compare(a, b)
}

// wrongOf returns the first one of the shortest lists of trials without which the book can be true.
func wrongOf(b api.PasteBook) []int {
	var all [][]int
	for set := range 1 << len(b.Trials) {
		list, left := parted(b, set)
		if len(truthsOf(withTrials(b, left...))) > 0 {
			all = append(all, list)
		}
	}
	return slices.MinFunc(all, sooner)
}

// tried returns the book after one more trial.
func tried(b api.PasteBook, surface int, lit bool) api.PasteBook {
	return withTrials(b, append(slices.Clone(b.Trials), api.PasteTrial{Surface: surface, Lit: lit})...)
}

// nextOf returns the first surface of which one more trial tells the most of the power, at the worst.
func nextOf(b api.PasteBook) (int, api.Errno) {
	if s := powersOf(b, truthsOf(b)); s.Low == s.High {
		return 0, api.ErrNone
	}
	var worst []int
	for s := range b.Surfaces {
		far := 0
		for _, lit := range []bool{true, false} {
			c := tried(b, s, lit)
			if truths := truthsOf(c); len(truths) > 0 {
				p := powersOf(c, truths)
				far = max(far, p.High-p.Low)
			}
		}
		worst = append(worst, far)
	}
	return slices.Index(worst, slices.Min(worst)), api.OK
}

// some returns a span of numbers up to most, its ends at most so far apart.
func some(r *rand.Rand, most, far int) api.Span {
	low := r.Intn(most + 1)
	return to(low, min(low+r.Intn(far+1), most))
}

// someTruth returns a truth of a book, in which its trials need not be right.
func someTruth(r *rand.Rand, b api.PasteBook) truth {
	pick := func(spans []api.Span) []int {
		var l []int
		for _, s := range spans {
			l = append(l, s.Low+r.Intn(s.High-s.Low+1))
		}
		return l
	}
	amounts, rubs, damps := spansOf(b)
	return truth{pick(amounts), pick(rubs), pick(damps)}
}

// size is how much there is in a book, at most.
type size struct{ salts, surfaces, trials, rub, far int }

var (
	small = size{salts: 3, surfaces: 3, trials: 3, rub: 12, far: 2}
	large = size{salts: api.PasteSalts, surfaces: api.PasteSurfaces, trials: api.PasteTrials, rub: 200, far: 40}
)

// someBook returns a valid book, in which about half of the surfaces can be lit.
func someBook(r *rand.Rand, z size) api.PasteBook {
	var b api.PasteBook
	for range 1 + r.Intn(z.salts) {
		b.Salts = append(b.Salts, salt(r.Intn(api.PastePower+1), some(r, 2+r.Intn(8), min(z.far, api.PasteSpan))))
	}
	for other := range b.Salts {
		for one := range other {
			if r.Intn(2) == 0 && len(b.Pairs) < api.PastePairs {
				b.Pairs = append(b.Pairs, pair(one, other, 1+r.Intn(api.PasteMore)))
			}
		}
	}
	for range 1 + r.Intn(z.surfaces) {
		b.Surfaces = append(b.Surfaces, surface(some(r, z.rub, z.far), some(r, z.rub/2, z.far)))
	}
	t := someTruth(r, b)
	on := r.Intn(len(b.Surfaces))
	b.Need = powerIn(b, t) + t.rubs[on] - b.Surfaces[on].Damp.Low + r.Intn(5) - 2
	b.Need = min(max(b.Need, 1), api.PasteNeed)
	return b
}

// rubbed returns a book with up to so many trials: such as there are in one truth, or any.
func rubbed(r *rand.Rand, b api.PasteBook, many int, right bool) (api.PasteBook, truth) {
	var trials []api.PasteTrial
	for range r.Intn(many + 1) {
		trials = append(trials, api.PasteTrial{Surface: r.Intn(len(b.Surfaces)), Lit: r.Intn(2) == 0})
	}
	b = withTrials(b, trials...)
	t := someTruth(r, b)
	for i := range b.Trials {
		if right {
			b.Trials[i].Lit = lightsIn(b, t, trials[i].Surface, t.damps[i])
		}
	}
	return b, t
}

// someBooks returns the same small books at each call.
func someBooks(n int) []api.PasteBook {
	r := rand.New(rand.NewSource(1))
	var books []api.PasteBook
	for i := range n {
		b, _ := rubbed(r, someBook(r, small), small.trials, i%2 == 0)
		books = append(books, b)
	}
	return books
}
