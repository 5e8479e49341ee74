package peel_test

import (
	"math/rand"
	"slices"

	"lucifer/api"
)

// What follows computes from the definitions alone, by trying out everything: the tests hold the package against it.

func columnOf(l api.PeelLog, turn, angle int) int {
	n := 0
	for _, long := range l.Long[:turn] {
		n += long
	}
	return n + angle*l.Long[turn]/24
}

func wide(l api.PeelLog) int {
	n := 0
	for _, long := range l.Long {
		n += long
	}
	return n
}

// allTruths returns of each truth which columns have a knot.
func allTruths(l api.PeelLog) [][]bool {
	all := [][]bool{make([]bool, wide(l))}
	for _, k := range l.Knots {
		var next [][]bool
		for _, before := range all {
			for angle := k.Angle.Low; angle <= k.Angle.High; angle++ {
				for first := k.First.Low; first <= k.First.High; first++ {
					t := slices.Clone(before)
					for turn := first; turn < len(l.Long); turn++ {
						t[columnOf(l, turn, angle)] = true
					}
					next = append(next, t)
				}
			}
		}
		all = next
	}
	return all
}

func wholeIn(truth []bool, first, size int) bool {
	return !slices.Contains(truth[first:first+size], true)
}

func surelyWhole(l api.PeelLog, first int) bool {
	for _, t := range allTruths(l) {
		if !wholeIn(t, first, l.Size) {
			return false
		}
	}
	return true
}

// allCuts returns all cuttings, in their order.
func allCuts(l api.PeelLog) [][]int {
	var all [][]int
	var add func(cut []int, from int)
	add = func(cut []int, from int) {
		all = append(all, slices.Clone(cut))
		for first := from; first+l.Size <= wide(l); first++ {
			add(append(cut, first), first+l.Size)
		}
	}
	add(nil, 0)
	return all
}

func countWhole(truth []bool, cut []int, size int) int {
	n := 0
	for _, first := range cut {
		if wholeIn(truth, first, size) {
			n++
		}
	}
	return n
}

func sureOf(l api.PeelLog, cut []int) int {
	n := 0
	for _, first := range cut {
		if surelyWhole(l, first) {
			n++
		}
	}
	return n
}

func wholeOf(l api.PeelLog, cut []int) api.Span {
	s := api.Span{Low: len(cut)}
	for _, t := range allTruths(l) {
		n := countWhole(t, cut, l.Size)
		s = api.Span{Low: min(s.Low, n), High: max(s.High, n)}
	}
	return s
}

// mostWhole returns how many pieces without the marked columns there are at most, column by column from behind.
func mostWhole(marked []bool, size int) int {
	most := make([]int, len(marked)+1)
	for c := len(marked) - 1; c >= 0; c-- {
		most[c] = most[c+1]
		if c+size <= len(marked) && wholeIn(marked, c, size) {
			most[c] = max(most[c], 1+most[c+size])
		}
	}
	return most[0]
}

// anyMarked returns the columns that have a knot in some truth.
func anyMarked(l api.PeelLog) []bool {
	marked := make([]bool, wide(l))
	for _, t := range allTruths(l) {
		for c, is := range t {
			marked[c] = marked[c] || is
		}
	}
	return marked
}

func hopeOf(l api.PeelLog) int {
	most := 0
	for _, t := range allTruths(l) {
		most = max(most, mostWhole(t, l.Size))
	}
	return most
}

// found returns the log once it is known of a knot where it is.
func found(l api.PeelLog, k, angle, first int) api.PeelLog {
	l.Knots = slices.Clone(l.Knots)
	l.Knots[k] = api.PeelKnot{Angle: one(angle), First: one(first)}
	return l
}

// worstOf returns how many pieces the best cutting has at the worst, once it is known where a knot is.
func worstOf(l api.PeelLog, k int) int {
	least := wide(l)
	for angle := l.Knots[k].Angle.Low; angle <= l.Knots[k].Angle.High; angle++ {
		for first := l.Knots[k].First.Low; first <= l.Knots[k].First.High; first++ {
			least = min(least, mostWhole(anyMarked(found(l, k, angle, first)), l.Size))
		}
	}
	return least
}

// askOf returns the first knot of which it is best to know where it is.
func askOf(l api.PeelLog) int {
	best := 0
	for k := range l.Knots {
		if worstOf(l, k) > worstOf(l, best) {
			best = k
		}
	}
	return best
}

// someLog returns a valid log of up to so many turns and columns a turn.
func someLog(r *rand.Rand, turns, long int) api.PeelLog {
	l := api.PeelLog{Size: 1 + r.Intn(api.PeelSize)}
	for range 1 + r.Intn(turns) {
		long = 1 + r.Intn(long)
		l.Long = append(l.Long, long)
	}
	slices.SortFunc(l.Long, func(a, b int) int { return b - a })
	for range r.Intn(api.PeelKnots + 1) {
		angle, first := r.Intn(api.PeelAngle), r.Intn(len(l.Long)+1)
		l.Knots = append(l.Knots, api.PeelKnot{
			Angle: to(angle, min(angle+r.Intn(api.PeelWide+1), api.PeelAngle-1)),
			First: to(first, min(first+r.Intn(api.PeelDeep+1), len(l.Long))),
		})
	}
	return l
}

// someLogs returns the same logs at each call: small ones, and such as are as long as can be.
func someLogs(n int) []api.PeelLog {
	r := rand.New(rand.NewSource(1))
	var logs []api.PeelLog
	for i := range n {
		l := someLog(r, api.PeelTurns, api.PeelLong)
		if i%3 == 0 { // long turns, so that there is room for pieces
			for t := range l.Long {
				l.Long[t] = api.PeelLong - t
			}
		}
		logs = append(logs, l)
	}
	return logs
}

// someCut returns a cutting.
func someCut(r *rand.Rand, l api.PeelLog) []int {
	var cut []int
	for c := 0; c+l.Size <= wide(l); c++ {
		if r.Intn(3) == 0 {
			cut = append(cut, c)
			c += l.Size - 1
		}
	}
	return cut
}
