package peel_test

import (
	"math/rand"
	"slices"
	"testing"

	"lucifer/api"
	"lucifer/peel"
)

// The tests in this file hold the package against the definitions, and against the chapter's properties, on many logs.

const many = 400

// TestTruths is of P1.1 to P1.3, and of P1.9.
func TestTruths(t *testing.T) {
	r := rand.New(rand.NewSource(3))
	for _, l := range someLogs(many) {
		truths := allTruths(l)
		for c := range wide(l) {
			some, all := false, true
			for _, truth := range truths {
				some, all = some || truth[c], all && truth[c]
			}
			want := api.PeelMay
			if all {
				want = api.PeelKnotty
			} else if !some {
				want = api.PeelWhole
			}
			if n, e := peel.Knotty(l, c); n != want || e != api.OK {
				t.Fatalf("Knotty of %v, %d: %d, %d", l, c, n, e)
			}
		}
		cut := someCut(r, l)
		if is, e := peel.IsCut(l, cut); !is || e != api.OK {
			t.Fatalf("IsCut of %v, %v: %v, %d", l, cut, is, e)
		}
		if n, e := peel.Sure(l, cut); n != sureOf(l, cut) || e != api.OK {
			t.Fatalf("Sure of %v, %v: %d, %d", l, cut, n, e)
		}
		s, e := peel.Whole(l, cut)
		if s != wholeOf(l, cut) || e != api.OK {
			t.Fatalf("Whole of %v, %v: %v, %d", l, cut, s, e)
		}
		if sure, _ := peel.Sure(l, cut); sure > s.Low {
			t.Fatalf("Sure of %v, %v: %d, but %v are whole", l, cut, sure, s)
		}
	}
}

// TestMost is of P1.4 to P1.6, and of P1.8.
func TestMost(t *testing.T) {
	for _, l := range someLogs(many) {
		best, e := peel.Best(l)
		if len(best) != mostWhole(anyMarked(l), l.Size) || e != api.OK {
			t.Fatalf("Best of %v: %v, %d", l, best, e)
		}
		for _, truth := range allTruths(l) {
			if countWhole(truth, best, l.Size) != len(best) {
				t.Fatalf("Best of %v: %v is not whole in %v", l, best, truth)
			}
		}
		if n, e := peel.Sure(l, best); n != len(best) || e != api.OK {
			t.Fatalf("Sure of the best of %v: %d, %d", l, n, e)
		}
		if n, e := peel.Waste(l); n != wide(l)-l.Size*len(best) || e != api.OK {
			t.Fatalf("Waste of %v: %d, %d", l, n, e)
		}
		hope, e := peel.Hope(l)
		if hope != hopeOf(l) || hope < len(best) || e != api.OK {
			t.Fatalf("Hope of %v: %d, %d", l, hope, e)
		}
	}
}

// TestFirst is of P1.3, P1.4 and P1.8, with all cuttings of small logs.
func TestFirst(t *testing.T) {
	r := rand.New(rand.NewSource(4))
	for range 150 {
		l := someLog(r, 3, 5)
		var best []int
		hope, _ := peel.Hope(l)
		for _, cut := range allCuts(l) {
			n := sureOf(l, cut)
			if n == len(cut) && (n > len(best) || n == len(best) && slices.Compare(cut, best) < 0) {
				best = cut
			}
			if got, e := peel.Sure(l, cut); got != n || e != api.OK {
				t.Fatalf("Sure of %v, %v: %d, %d", l, cut, got, e)
			}
			if s, e := peel.Whole(l, cut); s != wholeOf(l, cut) || s.High > hope || e != api.OK {
				t.Fatalf("Whole of %v, %v: %v, %d", l, cut, s, e)
			}
		}
		got, e := peel.Best(l)
		if !slices.Equal(got, best) || e != api.OK {
			t.Fatalf("Best of %v: %v, not %v, %d", l, got, best, e)
		}
		for _, cut := range allCuts(l) {
			if n, _ := peel.Sure(l, cut); n > len(got) {
				t.Fatalf("of %v %v has more sure pieces than %v", l, cut, got)
			}
		}
	}
}

// TestIsCut is of P1.3: exactly the cuttings are cuttings.
func TestIsCut(t *testing.T) {
	l := turn(6, 2, knot(one(4), to(0, 1)))
	is := map[[3]int]bool{}
	for _, cut := range allCuts(l) {
		if len(cut) == 3 {
			is[[3]int(cut)] = true
		}
	}
	for a := -2; a < 8; a++ {
		for b := -2; b < 8; b++ {
			for c := -2; c < 8; c++ {
				if got, e := peel.IsCut(l, []int{a, b, c}); got != is[[3]int{a, b, c}] || e != api.OK {
					t.Errorf("IsCut of %d %d %d: %v, %d", a, b, c, got, e)
				}
			}
		}
	}
}

// TestMoreKnown is of P1.10.
func TestMoreKnown(t *testing.T) {
	for _, l := range someLogs(many) {
		best, _ := peel.Best(l)
		for k, known := range l.Knots {
			less := withKnots(l, slices.Delete(slices.Clone(l.Knots), k, k+1)...)
			if n, e := peel.Best(less); len(n) < len(best) || e != api.OK {
				t.Fatalf("without the knot %d of %v: %v, not %v", k, l, n, best)
			}
			for _, s := range []api.PeelKnot{
				knot(to(known.Angle.Low, known.Angle.Low), known.First), knot(known.Angle, one(known.First.High)),
				knot(to((known.Angle.Low+known.Angle.High)/2, known.Angle.High), known.First), knot(known.Angle, one(known.First.Low)),
			} {
				more := withKnots(l, slices.Clone(l.Knots)...)
				more.Knots[k] = s
				if n, e := peel.Best(more); len(n) < len(best) || e != api.OK {
					t.Fatalf("with %v as the knot %d of %v: %v, not %v", s, k, l, n, best)
				}
			}
		}
		if l.Size < api.PeelSize {
			if n, e := peel.Best(sized(l, l.Size+1)); len(n) > len(best) || e != api.OK {
				t.Fatalf("longer pieces of %v: %v, not %v", l, n, best)
			}
		}
	}
}

// TestNoKnots is of P1.11.
func TestNoKnots(t *testing.T) {
	for _, l := range someLogs(many) {
		l = withKnots(l)
		room := wide(l) / l.Size
		best, e := peel.Best(l)
		if len(best) != room || e != api.OK {
			t.Fatalf("Best of %v: %v, %d", l, best, e)
		}
		for i, first := range best {
			if first != i*l.Size {
				t.Fatalf("Best of %v: %v", l, best)
			}
		}
		if n, e := peel.Hope(l); n != room || e != api.OK {
			t.Fatalf("Hope of %v: %d, %d", l, n, e)
		}
		if _, e := peel.Ask(l); e != api.ErrNone {
			t.Fatalf("Ask of %v: %d", l, e)
		}
	}
}

// TestAngles is of P1.12, and of Column of P1.1.
func TestAngles(t *testing.T) {
	for _, l := range someLogs(many) {
		start := 0
		for turn, long := range l.Long {
			before := start
			for angle := range api.PeelAngle {
				c, e := peel.Column(l, turn, angle)
				if c != columnOf(l, turn, angle) || c < before || c >= start+long || e != api.OK {
					t.Fatalf("Column of %v, %d, %d: %d, %d", l, turn, angle, c, e)
				}
				before = c
			}
			start += long
		}
		if n, e := peel.Ribbon(l); n != start || e != api.OK {
			t.Fatalf("Ribbon of %v: %d, %d", l, n, e)
		}
	}
}

// TestAsk is of P1.6 and P1.13.
func TestAsk(t *testing.T) {
	for _, l := range someLogs(many) {
		if len(l.Knots) == 0 {
			continue
		}
		ask, e := peel.Ask(l)
		if ask != askOf(l) || e != api.OK {
			t.Fatalf("Ask of %v: %d, not %d, %d", l, ask, askOf(l), e)
		}
		least := bestAtWorst(l, ask)
		for k := range l.Knots {
			if n := bestAtWorst(l, k); n > least || n == least && k < ask {
				t.Fatalf("Ask of %v: %d, but %d leaves %d, not %d", l, ask, k, n, least)
			}
		}
	}
}

// bestAtWorst returns how many pieces Best has at the worst, once it is known where a knot is.
func bestAtWorst(l api.PeelLog, k int) int {
	least := wide(l)
	for angle := l.Knots[k].Angle.Low; angle <= l.Knots[k].Angle.High; angle++ {
		for first := l.Knots[k].First.Low; first <= l.Knots[k].First.High; first++ {
			best, _ := peel.Best(found(l, k, angle, first))
			least = min(least, len(best))
		}
	}
	return least
}
