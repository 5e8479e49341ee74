package tunnel_test

import (
	"math/rand"
	"slices"

	"lucifer/api"
)

// What follows computes from the definitions alone, by trying out everything: the tests hold the package against it.

// allTruths returns of each truth the damp of each part.
func allTruths(b api.TunnelBook) [][]int {
	all := [][]int{nil}
	for _, p := range b.Parts {
		var next [][]int
		for _, before := range all {
			for damp := p.Damp.Low; damp <= p.Damp.High; damp++ {
				next = append(next, append(slices.Clone(before), damp))
			}
		}
		all = next
	}
	return all
}

// allSets returns all settings of so many parts, in their order.
func allSets(parts int) [][]int {
	all := [][]int{nil}
	for range parts {
		var next [][]int
		for _, before := range all {
			for damper := range 4 {
				next = append(next, append(slices.Clone(before), damper))
			}
		}
		all = next
	}
	return all
}

// dryIn returns how dry a frame is in a truth.
func dryIn(b api.TunnelBook, damps, set []int, frame int) int {
	dry := 0
	for i, p := range b.Parts {
		if minute := p.Heat[set[i]] - damps[i]; minute > 0 {
			dry += b.Frames[frame].Stay[i] * minute
		}
	}
	return dry
}

func heatOf(b api.TunnelBook, set []int) int {
	heat := 0
	for i, p := range b.Parts {
		heat += p.Heat[set[i]]
	}
	return heat
}

// driesOf returns how dry a frame is in all truths, and what becomes of it.
func driesOf(b api.TunnelBook, set []int, frame int) (api.Span, int) {
	var all []int
	wet, dry := false, false
	for _, damps := range allTruths(b) {
		n := dryIn(b, damps, set, frame)
		all = append(all, n)
		wet = wet || n < b.Frames[frame].Need.Low
		dry = dry || n > b.Frames[frame].Need.High
	}
	s := to(slices.Min(all), slices.Max(all))
	switch {
	case wet && dry:
		return s, api.TunnelBoth
	case wet:
		return s, api.TunnelSlow
	case dry:
		return s, api.TunnelQuick
	}
	return s, api.TunnelDry
}

func goodOf(b api.TunnelBook, set []int) []int {
	var good []int
	for f := range b.Frames {
		if _, kind := driesOf(b, set, f); kind == api.TunnelDry {
			good = append(good, f)
		}
	}
	return good
}

// result is a setting with what it does.
type result struct {
	set  []int
	heat int
	good []int
}

func allResults(b api.TunnelBook) []result {
	var all []result
	for _, set := range allSets(len(b.Parts)) {
		all = append(all, result{set, heatOf(b, set), goodOf(b, set)})
	}
	return all
}

// together reports whether by one of the settings all of some frames surely are dry in time.
func together(all []result, frames ...int) bool {
	return slices.ContainsFunc(all, func(r result) bool {
		return !slices.ContainsFunc(frames, func(f int) bool { return !slices.Contains(r.good, f) })
	})
}

// bestOf and mostOf take all results, in the order of the settings, and return the first one of the best.
func bestOf(b api.TunnelBook, all []result) ([]int, api.Errno) {
	all = slices.DeleteFunc(slices.Clone(all), func(r result) bool { return len(r.good) < len(b.Frames) })
	if len(all) == 0 {
		return nil, api.ErrNone
	}
	return slices.MinFunc(all, func(a, b result) int { return a.heat - b.heat }).set, api.OK
}

func mostOf(all []result) result {
	return slices.MinFunc(all, func(a, b result) int {
		if len(a.good) != len(b.good) {
			return len(b.good) - len(a.good)
		}
		return a.heat - b.heat
	})
}

func lostOf(b api.TunnelBook, all []result) []int {
	var lost []int
	for f := range b.Frames {
		if !together(all, f) {
			lost = append(lost, f)
		}
	}
	return lost
}

func clashOf(b api.TunnelBook, all []result) (one, other int, e api.Errno) {
	if len(lostOf(b, all)) > 0 {
		return 0, 0, api.ErrTunnelNot
	}
	for one := range b.Frames {
		for other := range b.Frames {
			if one < other && !together(all, one, other) {
				return one, other, api.OK
			}
		}
	}
	return 0, 0, api.ErrNone
}

// stayed returns the book in which a frame stays in a part for so many minutes more.
func stayed(b api.TunnelBook, frame, part, more int) api.TunnelBook {
	b.Frames = slices.Clone(b.Frames)
	b.Frames[frame].Stay = slices.Clone(b.Frames[frame].Stay)
	b.Frames[frame].Stay[part] += more
	return b
}

func longerOf(b api.TunnelBook, set []int, frame, part int) (int, api.Errno) {
	longest, e := 0, api.ErrNone
	if _, kind := driesOf(b, set, frame); kind != api.TunnelDry {
		return 0, e
	}
	for more := 0; b.Frames[frame].Stay[part]+more <= 20; more++ {
		if _, kind := driesOf(stayed(b, frame, part, more), set, frame); kind == api.TunnelDry {
			longest, e = more, api.OK
		}
	}
	return longest, e
}

// dampIs returns the book once the damp of a part is known.
func dampIs(b api.TunnelBook, part int, damp api.Span) api.TunnelBook {
	b.Parts = slices.Clone(b.Parts)
	b.Parts[part].Damp = damp
	return b
}

func askOf(b api.TunnelBook) int {
	var worst []int
	for p, known := range b.Parts {
		least := len(b.Frames)
		for damp := known.Damp.Low; damp <= known.Damp.High; damp++ {
			least = min(least, len(mostOf(allResults(dampIs(b, p, one(damp)))).good))
		}
		worst = append(worst, least)
	}
	return slices.Index(worst, slices.Max(worst))
}

// some returns a span of numbers from 0 to most, its ends at most so far apart.
func some(r *rand.Rand, most, far int) api.Span {
	low := r.Intn(most + 1)
	return to(low, min(low+r.Intn(far+1), most))
}

// somePart returns a part of which the damp is up to so wide.
func somePart(r *rand.Rand, wide int) api.TunnelPart {
	var heat [4]int
	for i := range heat {
		heat[i] = r.Intn(api.TunnelHeat + 1)
	}
	slices.Sort(heat[:])
	return api.TunnelPart{Heat: heat, Damp: some(r, 1+r.Intn(20), r.Intn(wide+1))}
}

// someBook returns a valid book of so many parts, each of whose frames can mostly be dried by itself.
func someBook(r *rand.Rand, parts, wide int) api.TunnelBook {
	var b api.TunnelBook
	for range parts {
		b.Parts = append(b.Parts, somePart(r, wide))
	}
	sets := allSets(parts)
	set := sets[r.Intn(len(sets))]
	for f := range r.Intn(api.TunnelFrames + 1) {
		stay := make([]int, parts)
		for i := range stay {
			stay[i] = r.Intn(1 + []int{3, 10, api.TunnelStay}[r.Intn(3)])
		}
		b.Frames = append(b.Frames, frame(one(0), stay...))
		if r.Intn(3) == 0 {
			set = sets[r.Intn(len(sets))]
		}
		s, _ := driesOf(b, set, f)
		more := r.Intn(25) - 5 // at times it needs to be drier than it may be, and wetter, too
		low := min(max(0, s.Low-more), api.TunnelNeed)
		b.Frames[f].Need = to(low, min(max(low, s.High+more), api.TunnelNeed))
	}
	return b
}

// closeBook returns a valid book whose frames need what the damp of a part decides.
func closeBook(r *rand.Rand, parts int) api.TunnelBook {
	var b api.TunnelBook
	for range parts {
		heat, damp := 3+r.Intn(10), r.Intn(3)
		b.Parts = append(b.Parts, part(to(damp, damp+r.Intn(2)), heat, heat+1, heat+2, heat+3))
	}
	truths := allTruths(b)
	for f := range 1 + r.Intn(3) {
		stay := make([]int, parts)
		for i := range stay {
			stay[i] = r.Intn(5)
		}
		b.Frames = append(b.Frames, frame(one(0), stay...))
		n := dryIn(b, truths[r.Intn(len(truths))], someSet(r, b), f)
		b.Frames[f].Need = to(max(0, n-r.Intn(3)), n+r.Intn(3))
	}
	return b
}

// someBooks returns the same books at each call: most of them small, some as large as can be.
func someBooks(n int) []api.TunnelBook {
	r := rand.New(rand.NewSource(1))
	var books []api.TunnelBook
	for i := range n {
		parts := 1 + i%3
		if i%20 == 0 {
			parts = api.TunnelParts
		}
		books = append(books, someBook(r, parts, 3))
	}
	return books
}

// someSet returns a setting of a book.
func someSet(r *rand.Rand, b api.TunnelBook) []int {
	set := make([]int, len(b.Parts))
	for i := range set {
		set[i] = r.Intn(4)
	}
	return set
}
