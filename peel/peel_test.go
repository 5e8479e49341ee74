package peel_test

import (
	"math"
	"slices"
	"testing"

	"lucifer/api"
	"lucifer/peel"
)

func to(low, high int) api.Span { return api.Span{Low: low, High: high} }

func one(n int) api.Span { return to(n, n) }

func knot(angle, first api.Span) api.PeelKnot { return api.PeelKnot{Angle: angle, First: first} }

// example is the log of the chapter's examples.
func example() api.PeelLog {
	return api.PeelLog{Long: []int{10, 9, 8}, Size: 3, Knots: []api.PeelKnot{knot(to(5, 7), one(1)), knot(one(20), to(0, 1))}}
}

func sized(l api.PeelLog, size int) api.PeelLog {
	l.Size = size
	return l
}

func withKnots(l api.PeelLog, k ...api.PeelKnot) api.PeelLog {
	l.Knots = k
	return l
}

func withLong(l api.PeelLog, long ...int) api.PeelLog {
	l.Long = long
	return l
}

// turn is a log of one turn.
func turn(long, size int, k ...api.PeelKnot) api.PeelLog {
	return api.PeelLog{Long: []int{long}, Size: size, Knots: k}
}

func wrongLogs() map[string]api.PeelLog {
	l := example()
	var at [api.PeelKnots + 1]api.PeelKnot
	return map[string]api.PeelLog{
		"nothing":              {},
		"no turns":             withLong(l),
		"no turns, no knots":   {Size: 3},
		"7 turns":              withLong(l, 3, 3, 3, 3, 3, 3, 3),
		"a turn of 0":          withLong(l, 10, 9, 0),
		"a turn below 0":       withLong(l, -1),
		"a turn of 13":         withLong(l, 13, 9, 8),
		"a longer second turn": withLong(l, 10, 11),
		"a longer last turn":   withLong(l, 10, 8, 9),
		"a huge turn":          withLong(l, math.MaxInt),
		"size 0":               sized(l, 0),
		"size below 0":         sized(l, math.MinInt),
		"size 7":               sized(l, 7),
		"4 knots":              withKnots(l, at[:]...),
		"angle 24":             withKnots(l, knot(to(23, 24), one(0))),
		"angle below 0":        withKnots(l, knot(to(-1, 0), one(0))),
		"angle reversed":       withKnots(l, knot(to(5, 4), one(0))),
		"angle 4 wide":         withKnots(l, knot(to(5, 9), one(0))),
		"angle around":         withKnots(l, knot(to(23, 1), one(0))),
		"angle huge":           withKnots(l, knot(to(math.MinInt, math.MaxInt), one(0))),
		"angle hugely back":    withKnots(l, knot(to(math.MaxInt, math.MinInt), one(0))),
		"first reversed":       withKnots(l, knot(one(5), to(1, 0))),
		"first 2 wide":         withKnots(l, knot(one(5), to(0, 2))),
		"first behind all":     withKnots(l, knot(one(5), to(3, 4))),
		"first below 0":        withKnots(l, knot(one(5), to(-1, 0))),
		"first huge":           withKnots(l, knot(one(5), to(math.MinInt, math.MaxInt))),
		"only the last wrong":  withKnots(l, knot(one(5), one(0)), knot(one(5), one(0)), knot(one(24), one(0))),
	}
}

func rightLogs() map[string]api.PeelLog {
	l := example()
	return map[string]api.PeelLog{
		"the example":        l,
		"the least":          {Long: []int{1}, Size: 1},
		"6 turns of 12":      {Long: []int{12, 12, 12, 12, 12, 12}, Size: 6},
		"empty knots":        {Long: []int{1}, Size: 6, Knots: []api.PeelKnot{}},
		"3 knots":            withKnots(l, knot(one(0), one(0)), knot(one(0), one(0)), knot(one(23), one(3))),
		"angle 0 to 3":       withKnots(l, knot(to(0, 3), one(0))),
		"angle 20 to 23":     withKnots(l, knot(to(20, 23), one(0))),
		"first 2 to 3":       withKnots(l, knot(one(5), to(2, 3))),
		"first not to show":  withKnots(l, knot(one(5), one(3))),
		"size 6, one column": turn(1, 6),
	}
}

// TestCheck is of P1.1 and, of the order of errors, P1.
func TestCheck(t *testing.T) {
	for name, l := range rightLogs() {
		if e := peel.Check(l); e != api.OK {
			t.Errorf("%s: %d", name, e)
		}
	}
	for name, l := range wrongLogs() {
		for call, got := range allErrors(l, -1, -1, -1, []int{-1}) {
			if got.e != api.ErrPeel || !got.zero {
				t.Errorf("%s of %s: %v", call, name, got)
			}
		}
	}
}

type outcome struct {
	e    api.Errno
	zero bool // all other results are zero
}

// allErrors calls each function, with the log and what else it takes.
func allErrors(l api.PeelLog, turn, angle, column int, cut []int) map[string]outcome {
	got := map[string]outcome{"Check": {peel.Check(l), true}}
	number := func(name string, n int, e api.Errno) { got[name] = outcome{e, n == 0} }
	n, e := peel.Ribbon(l)
	number("Ribbon", n, e)
	n, e = peel.Column(l, turn, angle)
	number("Column", n, e)
	n, e = peel.Knotty(l, column)
	number("Knotty", n, e)
	is, e := peel.IsCut(l, cut)
	got["IsCut"] = outcome{e, !is}
	n, e = peel.Sure(l, cut)
	number("Sure", n, e)
	s, e := peel.Whole(l, cut)
	got["Whole"] = outcome{e, s == api.Span{}}
	best, e := peel.Best(l)
	got["Best"] = outcome{e, len(best) == 0}
	n, e = peel.Waste(l)
	number("Waste", n, e)
	n, e = peel.Hope(l)
	number("Hope", n, e)
	n, e = peel.Ask(l)
	number("Ask", n, e)
	return got
}

// TestColumn is of Ribbon and Column of P1.1.
func TestColumn(t *testing.T) {
	for _, x := range []struct {
		l    api.PeelLog
		want int
	}{{example(), 27}, {turn(1, 6), 1}, {turn(12, 1), 12}, {withLong(example(), 12, 12, 12, 12, 12, 12), 72}} {
		if n, e := peel.Ribbon(x.l); n != x.want || e != api.OK {
			t.Errorf("Ribbon of %v: %d, %d", x.l, n, e)
		}
	}
	for _, x := range []struct {
		turn, angle int
		want        int
		e           api.Errno
	}{
		{0, 20, 8, api.OK}, {1, 7, 12, api.OK}, {2, 5, 20, api.OK}, // of the chapter
		{0, 0, 0, api.OK}, {0, 23, 9, api.OK}, {1, 0, 10, api.OK}, {1, 23, 18, api.OK}, {2, 0, 19, api.OK}, {2, 23, 26, api.OK},
		{2, 2, 19, api.OK}, {2, 3, 20, api.OK}, {0, 2, 0, api.OK}, {0, 3, 1, api.OK},
		{-1, 0, 0, api.ErrPeelAsk}, {3, 0, 0, api.ErrPeelAsk}, {0, -1, 0, api.ErrPeelAsk}, {0, 24, 0, api.ErrPeelAsk},
		{2, 24, 0, api.ErrPeelAsk}, {3, 24, 0, api.ErrPeelAsk}, {math.MaxInt, 5, 0, api.ErrPeelAsk}, {0, math.MinInt, 0, api.ErrPeelAsk}, {0, math.MaxInt, 0, api.ErrPeelAsk},
	} {
		if n, e := peel.Column(example(), x.turn, x.angle); n != x.want || e != x.e {
			t.Errorf("Column of %d, %d: %d, %d", x.turn, x.angle, n, e)
		}
	}
}

// TestKnotty is of P1.2.
func TestKnotty(t *testing.T) {
	for c, want := range []int{0, 0, 0, 0, 0, 0, 0, 0, 1, 0, 0, 1, 1, 0, 0, 0, 0, 2, 0, 0, 1, 1, 0, 0, 0, 2, 0} {
		if n, e := peel.Knotty(example(), c); n != want || e != api.OK {
			t.Errorf("Knotty of %d: %d, %d", c, n, e)
		}
	}
	for i, x := range []struct {
		l      api.PeelLog
		column int
		want   int
		e      api.Errno
	}{
		{turn(12, 1, knot(to(4, 5), one(0))), 2, api.PeelKnotty, api.OK}, // two angles, one column
		{turn(12, 1, knot(to(4, 6), one(0))), 2, api.PeelMay, api.OK},
		{turn(12, 1, knot(to(4, 6), one(0))), 3, api.PeelMay, api.OK},
		{turn(12, 1, knot(one(4), to(0, 1))), 2, api.PeelMay, api.OK}, // it may not show
		{turn(12, 1, knot(one(4), one(1))), 2, api.PeelWhole, api.OK}, // it does not show
		{turn(12, 1, knot(to(4, 6), one(0)), knot(one(5), one(0))), 2, api.PeelKnotty, api.OK},
		{turn(12, 1, knot(to(4, 6), one(0)), knot(to(4, 6), one(0))), 2, api.PeelMay, api.OK},
		{turn(1, 1, knot(to(20, 23), one(0))), 0, api.PeelKnotty, api.OK},
		{turn(8, 2, knot(one(9), one(0))), 3, api.PeelKnotty, api.OK},
		{turn(8, 2), 7, api.PeelWhole, api.OK},
		{turn(8, 2), 8, 0, api.ErrPeelAsk},
		{turn(8, 2, knot(one(9), one(0))), 8, 0, api.ErrPeelAsk},
		{example(), 27, 0, api.ErrPeelAsk}, {example(), -1, 0, api.ErrPeelAsk}, {example(), 72, 0, api.ErrPeelAsk},
		{example(), math.MaxInt, 0, api.ErrPeelAsk}, {example(), math.MinInt, 0, api.ErrPeelAsk},
	} {
		if n, e := peel.Knotty(x.l, x.column); n != x.want || e != x.e {
			t.Errorf("Knotty %d: %d, %d", i, n, e)
		}
	}
}

// TestCut is of P1.3.
func TestCut(t *testing.T) {
	l := example()
	for i, x := range []struct {
		l     api.PeelLog
		cut   []int
		sure  int
		whole api.Span
	}{
		{l, []int{0, 3, 6, 9}, 2, to(2, 4)}, {l, nil, 0, one(0)}, {l, []int{}, 0, one(0)}, {l, []int{24}, 0, one(0)},
		{l, []int{0, 3, 13, 22}, 4, one(4)}, {l, []int{10, 20}, 0, one(0)}, {l, []int{9, 18}, 0, to(0, 2)}, {l, []int{6}, 0, to(0, 1)},
		{turn(12, 1, knot(to(4, 6), one(0))), []int{2, 3}, 0, one(1)}, // one of two has it, but which one?
		{withLong(sized(withKnots(l), 6), 3, 2, 1), []int{0}, 1, one(1)},
	} {
		if is, e := peel.IsCut(x.l, x.cut); !is || e != api.OK {
			t.Errorf("IsCut %d: %v, %d", i, is, e)
		}
		if n, e := peel.Sure(x.l, x.cut); n != x.sure || e != api.OK {
			t.Errorf("Sure %d: %d, %d", i, n, e)
		}
		if s, e := peel.Whole(x.l, x.cut); s != x.whole || e != api.OK {
			t.Errorf("Whole %d: %v, %d", i, s, e)
		}
	}
	for i, x := range []struct {
		l   api.PeelLog
		cut []int
	}{
		{l, []int{25}}, {l, []int{26}}, {l, []int{0, 2}}, {l, []int{3, 0}}, {l, []int{3, 3}}, {l, []int{-1}}, {l, []int{0, 3, 25}}, {l, []int{0, 27}},
		{turn(2, 3), []int{0}}, {turn(2, 3), []int{-1}}, {l, []int{math.MaxInt}}, {l, []int{math.MinInt}}, {l, []int{0, math.MaxInt - 1}},
		{l, []int{math.MaxInt, math.MinInt}}, {l, make([]int, 1000)},
	} {
		if is, e := peel.IsCut(x.l, x.cut); is || e != api.OK {
			t.Errorf("IsCut of the wrong one %d: %v, %d", i, is, e)
		}
		if n, e := peel.Sure(x.l, x.cut); n != 0 || e != api.ErrPeelAsk {
			t.Errorf("Sure of the wrong one %d: %d, %d", i, n, e)
		}
		if s, e := peel.Whole(x.l, x.cut); s != (api.Span{}) || e != api.ErrPeelAsk {
			t.Errorf("Whole of the wrong one %d: %v, %d", i, s, e)
		}
	}
}

// TestBest is of P1.4 to P1.6, and of P1.11 by example.
func TestBest(t *testing.T) {
	for i, x := range []struct {
		l     api.PeelLog
		best  []int
		waste int
		hope  int
		ask   int
		e     api.Errno
	}{
		{example(), []int{0, 3, 13, 22}, 15, 7, 0, api.OK},
		{sized(example(), 5), []int{0}, 22, 3, 0, api.OK},
		{withKnots(example()), []int{0, 3, 6, 9, 12, 15, 18, 21, 24}, 0, 9, 0, api.ErrNone},
		{turn(8, 2, knot(one(9), one(0))), []int{0, 4, 6}, 2, 3, 0, api.OK}, // of DOC.md
		{turn(2, 3), nil, 2, 0, 0, api.ErrNone},                             // no room for a piece
		{turn(2, 3, knot(one(0), one(0))), nil, 2, 0, 0, api.OK},
		{turn(3, 3), []int{0}, 0, 1, 0, api.ErrNone},
		{turn(6, 3, knot(to(8, 11), one(0))), []int{3}, 3, 1, 0, api.OK},
		{turn(6, 2, knot(one(4), to(0, 1))), []int{2, 4}, 2, 3, 0, api.OK}, // hope is that it does not show
		{turn(6, 2, knot(one(4), one(1))), []int{0, 2, 4}, 0, 3, 0, api.OK},
		{turn(1, 1, knot(to(20, 23), one(0))), nil, 1, 0, 0, api.OK},
		{turn(6, 1, knot(one(4), to(0, 1)), knot(to(9, 12), one(0))), []int{0, 4, 5}, 3, 5, 1, api.OK}, // the second one is worth more
		{turn(6, 1, knot(to(9, 12), one(0)), knot(one(4), to(0, 1))), []int{0, 4, 5}, 3, 5, 0, api.OK},
		{turn(6, 1, knot(to(3, 4), one(0)), knot(to(15, 16), one(0))), []int{2, 5}, 4, 4, 0, api.OK}, // of equal ones the first
	} {
		if l, e := peel.Best(x.l); !slices.Equal(l, x.best) || e != api.OK {
			t.Errorf("Best %d: %v, %d", i, l, e)
		}
		if n, e := peel.Waste(x.l); n != x.waste || e != api.OK {
			t.Errorf("Waste %d: %d, %d", i, n, e)
		}
		if n, e := peel.Hope(x.l); n != x.hope || e != api.OK {
			t.Errorf("Hope %d: %d, %d", i, n, e)
		}
		if n, e := peel.Ask(x.l); n != x.ask || e != x.e {
			t.Errorf("Ask %d: %d, %d", i, n, e)
		}
	}
}
