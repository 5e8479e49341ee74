package fold_test

import (
	"math"
	"slices"
	"testing"

	"lucifer/api"
	"lucifer/fold"
)

func to(low, high int) api.Span { return api.Span{Low: low, High: high} }

func one(n int) api.Span { return to(n, n) }

func flap(side int, reach, along api.Span) api.FoldFlap {
	return api.FoldFlap{Side: side, Reach: reach, Along: along}
}

func over(over, under int) api.FoldRule { return api.FoldRule{Over: over, Under: under} }

func withFlaps(b api.FoldSheet, flaps ...api.FoldFlap) api.FoldSheet {
	b.Flaps = flaps
	return b
}

func withRules(b api.FoldSheet, rules ...api.FoldRule) api.FoldSheet {
	b.Rules = rules
	return b
}

// changed is a sheet with another flap in the place of one.
func changed(b api.FoldSheet, number int, f api.FoldFlap) api.FoldSheet {
	b.Flaps = slices.Clone(b.Flaps)
	b.Flaps[number] = f
	return b
}

// reaches is a sheet of which a flap reaches as far as is told.
func reaches(b api.FoldSheet, number int, reach api.Span) api.FoldSheet {
	f := b.Flaps[number]
	f.Reach = reach
	return changed(b, number, f)
}

// example is the sheet of the chapter's examples.
func example() api.FoldSheet {
	return api.FoldSheet{
		Wide: 10, High: 8,
		Flaps: []api.FoldFlap{
			flap(api.FoldLeft, to(5, 6), to(0, 7)),
			flap(api.FoldRight, to(4, 5), to(0, 7)),
			flap(api.FoldTop, one(3), to(2, 7)),
			flap(api.FoldBottom, one(2), to(8, 9)),
		},
		Rules: []api.FoldRule{over(1, 0), over(2, 1), over(0, 2), over(3, 1)},
	}
}

func short() api.FoldSheet { return reaches(example(), 0, one(5)) }

// pile is a sheet of so many flaps, of which each two meet, with some rules.
func pile(many int, rules ...api.FoldRule) api.FoldSheet {
	b := api.FoldSheet{Wide: 1, High: 1, Rules: rules}
	for f := range many {
		b.Flaps = append(b.Flaps, flap(f%4, one(1), one(0)))
	}
	return b
}

// chain is the rules by which each of so many flaps must lie over the one before it.
func chain(many int) []api.FoldRule {
	var rules []api.FoldRule
	for f := 1; f < many; f++ {
		rules = append(rules, over(f, f-1))
	}
	return rules
}

// pair is a sheet of 9 columns and 7 rows with two flaps, the one over the other.
func pair(one, other api.FoldFlap) api.FoldSheet {
	return api.FoldSheet{Wide: 9, High: 7, Flaps: []api.FoldFlap{one, other}, Rules: []api.FoldRule{over(0, 1)}}
}

func wrongSheets() map[string]api.FoldSheet {
	b := example()
	size := func(wide, high int) api.FoldSheet {
		b := pile(1)
		b.Wide, b.High = wide, high
		return b
	}
	f := func(side int, reach, along api.Span) api.FoldSheet { return changed(b, 3, flap(side, reach, along)) }
	r := func(more ...api.FoldRule) api.FoldSheet { return withRules(b, append(example().Rules, more...)...) }
	return map[string]api.FoldSheet{
		"nothing":                  {},
		"0 wide":                   size(0, 1),
		"0 high":                   size(1, 0),
		"-1 wide":                  size(-1, 1),
		"-1 high":                  size(1, -1),
		"100 wide":                 size(100, 1),
		"100 high":                 size(1, 100),
		"hugely wide":              size(math.MaxInt, 1),
		"hugely high":              size(1, math.MaxInt),
		"no wide at all":           size(math.MinInt, 1),
		"no high at all":           size(1, math.MinInt),
		"no flaps":                 {Wide: 9, High: 9},
		"no flaps, but rules":      {Wide: 9, High: 9, Rules: b.Rules},
		"8 flaps":                  pile(8),
		"side -1":                  f(-1, one(2), one(3)),
		"side 4":                   f(4, one(2), one(3)),
		"a huge side":              f(math.MaxInt, one(2), one(3)),
		"a hugely negative side":   f(math.MinInt, one(2), one(3)),
		"flap 0 has side 4":        changed(b, 0, flap(4, one(2), one(3))),
		"left: no reach":           f(api.FoldLeft, to(0, 3), one(3)),
		"right: no reach":          f(api.FoldRight, to(0, 3), one(3)),
		"top: no reach":            f(api.FoldTop, to(0, 3), one(3)),
		"bottom: no reach":         f(api.FoldBottom, to(0, 3), one(3)),
		"reach of 0":               f(api.FoldBottom, one(0), one(3)),
		"reach below 0":            f(api.FoldBottom, to(-1, 3), one(3)),
		"left: reach of 11":        f(api.FoldLeft, to(5, 11), one(3)),
		"right: reach of 11":       f(api.FoldRight, to(5, 11), one(3)),
		"top: reach of 9":          f(api.FoldTop, to(5, 9), one(3)),
		"bottom: reach of 9":       f(api.FoldBottom, to(5, 9), one(3)),
		"bottom: only 9":           f(api.FoldBottom, one(9), one(3)),
		"reach reversed":           f(api.FoldBottom, to(3, 2), one(3)),
		"reach huge":               f(api.FoldRight, to(1, math.MaxInt), one(3)),
		"reach huge in all":        f(api.FoldRight, to(math.MinInt, math.MaxInt), one(3)),
		"reach hugely back":        f(api.FoldRight, to(math.MaxInt, math.MinInt), one(3)),
		"right: reach beyond all":  f(api.FoldRight, one(math.MinInt), one(3)),
		"left: reach beyond all":   f(api.FoldLeft, one(math.MinInt), one(3)),
		"bottom: nearly so":        f(api.FoldBottom, one(math.MinInt+8), one(3)),
		"left: along to 8":         f(api.FoldLeft, one(2), to(3, 8)),
		"right: along to 8":        f(api.FoldRight, one(2), to(3, 8)),
		"top: along to 10":         f(api.FoldTop, one(2), to(3, 10)),
		"bottom: along to 10":      f(api.FoldBottom, one(2), to(3, 10)),
		"left: along from -1":      f(api.FoldLeft, one(2), to(-1, 3)),
		"right: along from -1":     f(api.FoldRight, one(2), to(-1, 3)),
		"top: along from -1":       f(api.FoldTop, one(2), to(-1, 3)),
		"bottom: along from -1":    f(api.FoldBottom, one(2), to(-1, 3)),
		"left: along reversed":     f(api.FoldLeft, one(2), to(4, 3)),
		"bottom: along reversed":   f(api.FoldBottom, one(2), to(4, 3)),
		"along huge":               f(api.FoldTop, one(2), to(math.MinInt, math.MaxInt)),
		"along hugely back":        f(api.FoldTop, one(2), to(math.MaxInt, math.MinInt)),
		"over -1":                  r(over(-1, 0)),
		"under -1":                 r(over(0, -1)),
		"over 4":                   r(over(4, 0)),
		"under 4":                  r(over(0, 4)),
		"over huge":                r(over(math.MaxInt, 0)),
		"under hugely negative":    r(over(0, math.MinInt)),
		"over itself":              r(over(3, 3)),
		"rule 0 is over itself":    withRules(b, over(0, 0), over(1, 0)),
		"rule 0 again":             r(over(1, 0)),
		"rule 3 again":             r(over(0, 1), over(3, 1)),
		"11 rules":                 withRules(pile(7), append(chain(7), over(0, 2), over(0, 3), over(0, 4), over(0, 5), over(0, 6))...),
		"11 rules of nothing":      withRules(b, make([]api.FoldRule, 11)...),
		"a flap less than a rule":  withFlaps(b, b.Flaps[:3]...),
		"the reach of another way": {Wide: 3, High: 9, Flaps: []api.FoldFlap{flap(api.FoldLeft, to(1, 4), to(0, 2))}},
		"the along of another way": {Wide: 9, High: 3, Flaps: []api.FoldFlap{flap(api.FoldLeft, to(1, 4), to(0, 3))}},
	}
}

func rightSheets() map[string]api.FoldSheet {
	great := api.FoldSheet{Wide: 99, High: 99}
	return map[string]api.FoldSheet{
		"the example":    example(),
		"the least":      {Wide: 1, High: 1, Flaps: []api.FoldFlap{flap(api.FoldLeft, one(1), one(0))}},
		"empty rules":    {Wide: 1, High: 1, Flaps: []api.FoldFlap{flap(api.FoldBottom, one(1), one(0))}, Rules: []api.FoldRule{}},
		"the most":       withFlaps(great, flap(0, to(1, 99), to(0, 98)), flap(1, to(1, 99), to(0, 98)), flap(2, to(1, 99), to(0, 98)), flap(3, to(1, 99), to(0, 98))),
		"wide":           {Wide: 99, High: 1, Flaps: []api.FoldFlap{flap(0, one(99), one(0)), flap(1, one(99), one(0)), flap(2, one(1), to(0, 98)), flap(3, one(1), one(98))}},
		"high":           {Wide: 1, High: 99, Flaps: []api.FoldFlap{flap(2, one(99), one(0)), flap(3, one(99), one(0)), flap(0, one(1), to(0, 98)), flap(1, one(1), one(98))}},
		"7 flaps":        pile(7),
		"10 rules":       pile(7, append(chain(7), over(0, 2), over(0, 3), over(0, 4), over(0, 5))...),
		"both ways":      pile(2, over(0, 1), over(1, 0)),
		"rules that lie": withRules(example(), over(3, 0), over(0, 3)), // they never meet
	}
}

type outcome struct {
	e    api.Errno
	zero bool // all other results are zero
}

// allErrors calls each function, with the sheet and what else it takes.
func allErrors(b api.FoldSheet, order []int, one, other int) map[string]outcome {
	got := map[string]outcome{"Check": {fold.Check(b), true}}
	number := func(name string, n int, e api.Errno) { got[name] = outcome{e, n == 0} }
	list := func(name string, l []int, e api.Errno) { got[name] = outcome{e, len(l) == 0} }
	n, e := fold.Meet(b, one, other)
	number("Meet", n, e)
	n, e = fold.Does(b, order)
	number("Does", n, e)
	l, e := fold.Order(b)
	list("Order", l, e)
	n, e = fold.Orders(b)
	number("Orders", n, e)
	l, e = fold.Ring(b)
	list("Ring", l, e)
	n, e = fold.Rounds(b)
	number("Rounds", n, e)
	n, e = fold.Shorter(b, one)
	number("Shorter", n, e)
	l, e = fold.Drop(b)
	list("Drop", l, e)
	return got
}

// TestCheck is of P4.1 and, of the order of errors, P1.
func TestCheck(t *testing.T) {
	for name, b := range rightSheets() {
		for call, got := range allErrors(b, nil, 0, 1) {
			if got.e == api.ErrFold {
				t.Errorf("%s of %s: %d", call, name, got.e)
			}
		}
		if e := fold.Check(b); e != api.OK {
			t.Errorf("%s: %d", name, e)
		}
	}
	for name, b := range wrongSheets() {
		for call, got := range allErrors(b, nil, -1, -1) {
			if got.e != api.ErrFold || !got.zero {
				t.Errorf("%s of %s: %v", call, name, got)
			}
		}
	}
}

// TestWrongQuestions is of the errors of P4.1, P4.2 and P4.6.
func TestWrongQuestions(t *testing.T) {
	for _, x := range [][2]int{{0, 0}, {3, 3}, {0, 4}, {4, 0}, {0, -1}, {-1, 0}, {-1, -2}, {4, 5}, {math.MaxInt, 0}, {0, math.MinInt}, {math.MinInt, math.MaxInt}} {
		if n, e := fold.Meet(example(), x[0], x[1]); n != 0 || e != api.ErrFoldAsk {
			t.Errorf("Meet of %v: %d, %d", x, n, e)
		}
	}
	for _, order := range [][]int{
		nil, {}, {0}, {0, 1, 2}, {1, 2, 3}, {0, 1, 2, 3, 0}, {0, 1, 2, 3, 4}, {0, 1, 2, 2}, {0, 0, 1, 2}, {1, 1, 1, 1},
		{0, 1, 2, 4}, {4, 1, 2, 3}, {-1, 0, 1, 2}, {0, 1, 2, -1}, {0, 1, math.MaxInt, 3}, {math.MinInt, 1, 2, 3}, {1, 2, 3, 4}, make([]int, 1000),
	} {
		if n, e := fold.Does(example(), order); n != 0 || e != api.ErrFoldAsk {
			t.Errorf("Does of %v: %d, %d", order, n, e)
		}
	}
	if n, e := fold.Does(pile(1), []int{1}); n != 0 || e != api.ErrFoldAsk {
		t.Errorf("Does of 1, which there is not: %d, %d", n, e)
	}
	for _, b := range []api.FoldSheet{example(), short(), pile(4)} {
		for _, f := range []int{-1, 4, 5, 7, math.MinInt, math.MaxInt} {
			if n, e := fold.Shorter(b, f); n != 0 || e != api.ErrFoldAsk {
				t.Errorf("Shorter of %d: %d, %d", f, n, e)
			}
		}
	}
	if n, e := fold.Meet(pile(1), 0, 0); n != 0 || e != api.ErrFoldAsk {
		t.Errorf("Meet of the only flap: %d, %d", n, e)
	}
}

// TestMeet is of P4.1: the flaps in both orders.
func TestMeet(t *testing.T) {
	left, right, top, bottom := api.FoldLeft, api.FoldRight, api.FoldTop, api.FoldBottom
	for i, x := range []struct {
		b          api.FoldSheet
		one, other int
		want       int
	}{
		// of the chapter
		{example(), 0, 1, 1}, {example(), 0, 2, 2}, {example(), 2, 1, 2}, {example(), 3, 1, 2}, {example(), 0, 3, 0}, {example(), 2, 3, 0}, {short(), 0, 1, 0},
		// sides across, of 9 columns: 4 and 5 do not meet, 5 and 5 do, in one column
		{pair(flap(left, one(4), to(0, 6)), flap(right, one(5), to(0, 6))), 0, 1, 0}, {pair(flap(left, one(5), to(0, 6)), flap(right, one(5), to(0, 6))), 0, 1, 2},
		{pair(flap(left, to(4, 5), to(0, 6)), flap(right, one(5), to(0, 6))), 0, 1, 1}, {pair(flap(left, one(4), to(0, 6)), flap(right, to(5, 6), to(0, 6))), 0, 1, 1},
		{pair(flap(left, to(3, 4), to(0, 6)), flap(right, to(4, 5), to(0, 6))), 0, 1, 0}, {pair(flap(left, to(3, 5), to(0, 6)), flap(right, to(4, 5), to(0, 6))), 0, 1, 1},
		{pair(flap(left, one(9), to(0, 3)), flap(right, one(9), to(4, 6))), 0, 1, 0}, {pair(flap(left, one(9), to(0, 4)), flap(right, one(1), to(4, 6))), 0, 1, 2},
		{pair(flap(left, one(9), to(4, 6)), flap(right, one(1), to(0, 4))), 0, 1, 2}, {pair(flap(left, one(9), to(5, 6)), flap(right, one(9), to(0, 4))), 0, 1, 0},
		// and of 7 rows
		{pair(flap(top, one(3), to(0, 8)), flap(bottom, one(4), to(0, 8))), 0, 1, 0}, {pair(flap(top, one(4), to(0, 8)), flap(bottom, one(4), to(0, 8))), 0, 1, 2},
		{pair(flap(top, to(3, 4), to(0, 8)), flap(bottom, one(4), to(0, 8))), 0, 1, 1}, {pair(flap(top, one(3), to(0, 8)), flap(bottom, to(4, 7), to(0, 8))), 0, 1, 1},
		{pair(flap(top, one(7), to(0, 5)), flap(bottom, one(7), to(6, 8))), 0, 1, 0}, {pair(flap(top, one(7), to(0, 6)), flap(bottom, one(1), to(6, 8))), 0, 1, 2},
		// the same side: they lie along it
		{pair(flap(left, one(1), to(0, 3)), flap(left, one(9), to(3, 6))), 0, 1, 2}, {pair(flap(left, one(9), to(0, 3)), flap(left, one(9), to(4, 6))), 0, 1, 0},
		{pair(flap(right, to(1, 9), to(2, 2)), flap(right, to(1, 9), to(0, 6))), 0, 1, 2}, {pair(flap(top, one(7), to(0, 7)), flap(top, one(7), to(8, 8))), 0, 1, 0},
		{pair(flap(top, to(1, 7), to(0, 8)), flap(top, one(1), to(8, 8))), 0, 1, 2}, {pair(flap(bottom, one(2), to(0, 4)), flap(bottom, one(1), to(4, 8))), 0, 1, 2},
		// sides at a corner: each must reach the other one's along
		{pair(flap(left, one(3), to(2, 4)), flap(top, one(3), to(2, 4))), 0, 1, 2}, {pair(flap(left, one(2), to(2, 4)), flap(top, one(3), to(2, 4))), 0, 1, 0},
		{pair(flap(left, one(3), to(2, 4)), flap(top, one(2), to(2, 4))), 0, 1, 0}, {pair(flap(left, to(2, 3), to(2, 4)), flap(top, to(2, 3), to(2, 4))), 0, 1, 1},
		{pair(flap(left, one(3), to(2, 4)), flap(bottom, one(3), to(2, 4))), 0, 1, 2}, {pair(flap(left, one(3), to(2, 4)), flap(bottom, one(2), to(2, 4))), 0, 1, 0},
		{pair(flap(left, one(2), to(2, 4)), flap(bottom, one(3), to(2, 4))), 0, 1, 0}, {pair(flap(left, to(2, 9), to(2, 4)), flap(bottom, one(7), to(2, 4))), 0, 1, 1},
		{pair(flap(right, one(5), to(2, 4)), flap(top, one(3), to(2, 4))), 0, 1, 2}, {pair(flap(right, one(4), to(2, 4)), flap(top, one(3), to(2, 4))), 0, 1, 0},
		{pair(flap(right, one(5), to(2, 4)), flap(top, to(1, 2), to(2, 4))), 0, 1, 0}, {pair(flap(right, one(5), to(2, 4)), flap(top, to(1, 3), to(2, 4))), 0, 1, 1},
		{pair(flap(right, one(5), to(2, 4)), flap(bottom, one(3), to(2, 4))), 0, 1, 2}, {pair(flap(right, one(5), to(2, 4)), flap(bottom, one(2), to(2, 4))), 0, 1, 0},
		{pair(flap(right, to(4, 5), to(2, 4)), flap(bottom, one(3), to(2, 4))), 0, 1, 1}, {pair(flap(right, to(1, 4), to(2, 4)), flap(bottom, one(7), to(2, 4))), 0, 1, 0},
		// rules do not matter, and flaps between them neither
		{withRules(pile(3)), 0, 2, 2}, {withRules(short(), over(0, 1)), 0, 1, 0}, {withRules(example()), 0, 1, 1},
	} {
		for _, two := range [][2]int{{x.one, x.other}, {x.other, x.one}} {
			if n, e := fold.Meet(x.b, two[0], two[1]); n != x.want || e != api.OK {
				t.Errorf("Meet %d of %v: %d, %d", i, two, n, e)
			}
		}
	}
}

// TestDoes is of P4.2.
func TestDoes(t *testing.T) {
	for i, x := range []struct {
		b     api.FoldSheet
		order []int
		want  int
	}{
		// of the chapter
		{example(), []int{2, 0, 1, 3}, 0}, {example(), []int{0, 1, 2, 3}, 0}, {example(), []int{1, 2, 0, 3}, 1}, {short(), []int{1, 2, 0, 3}, 2}, {short(), []int{0, 1, 2, 3}, 0},
		// of DOC.md: the left one of two must lie over the right one, and they meet
		{pair(flap(0, one(5), to(0, 6)), flap(1, one(5), to(0, 6))), []int{1, 0}, 2}, {pair(flap(0, one(5), to(0, 6)), flap(1, one(5), to(0, 6))), []int{0, 1}, 0},
		// or may meet, or never do
		{pair(flap(0, one(5), to(0, 6)), flap(1, to(4, 5), to(0, 6))), []int{0, 1}, 1}, {pair(flap(0, one(5), to(0, 6)), flap(1, to(4, 5), to(0, 6))), []int{1, 0}, 2},
		{pair(flap(0, one(5), to(0, 6)), flap(1, one(4), to(0, 6))), []int{0, 1}, 2}, {pair(flap(0, one(5), to(0, 6)), flap(1, one(4), to(0, 6))), []int{1, 0}, 2},
		// one rule that surely is broken outweighs one that may be
		{withRules(example(), over(1, 0), over(2, 1)), []int{1, 0, 2, 3}, 1}, {withRules(example(), over(1, 0), over(2, 1)), []int{2, 1, 0, 3}, 0}, {withRules(example(), over(2, 1), over(1, 0)), []int{2, 1, 0, 3}, 0},
		{withRules(example(), over(1, 0), over(2, 1)), []int{0, 1, 2, 3}, 2}, {withRules(example(), over(1, 0), over(2, 1)), []int{3, 0, 1, 2}, 2},
		// without rules each order does, and by rules both ways none
		{withRules(example()), []int{3, 2, 1, 0}, 2}, {pile(1), []int{0}, 2}, {pile(2, over(0, 1), over(1, 0)), []int{0, 1}, 0}, {pile(2, over(0, 1), over(1, 0)), []int{1, 0}, 0},
		{withRules(example(), over(0, 1), over(1, 0)), []int{0, 1, 2, 3}, 1}, {withRules(example(), over(0, 3), over(3, 0)), []int{0, 3, 1, 2}, 2},
		// flaps that lie between are no matter
		{pile(7, over(6, 0)), []int{0, 1, 2, 3, 4, 5, 6}, 2}, {pile(7, over(0, 6)), []int{0, 1, 2, 3, 4, 5, 6}, 0}, {pile(7, over(0, 6)), []int{6, 5, 4, 3, 2, 1, 0}, 2}, {pile(7, chain(7)...), []int{0, 1, 2, 3, 5, 4, 6}, 0},
		{pile(7, chain(7)...), []int{0, 1, 2, 3, 4, 5, 6}, 2}, {pile(3, over(1, 0)), []int{2, 0, 1}, 2}, {pile(3, over(1, 0)), []int{1, 2, 0}, 0},
	} {
		if n, e := fold.Does(x.b, x.order); n != x.want || e != api.OK {
			t.Errorf("Does %d: %d, %d", i, n, e)
		}
	}
}

// sheetAnswers is what is told of a sheet; without orders there is a ring.
type sheetAnswers struct {
	b      api.FoldSheet
	order  []int
	orders int
	ring   []int
	rounds int
	drop   []int
}

func (x sheetAnswers) check(t *testing.T, name any) {
	t.Helper()
	e, f := api.OK, api.ErrNone
	if x.orders == 0 {
		e, f = api.ErrNone, api.OK
	}
	if l, g := fold.Order(x.b); !slices.Equal(l, x.order) || g != e {
		t.Errorf("Order %v: %v, %d", name, l, g)
	}
	if n, g := fold.Orders(x.b); n != x.orders || g != api.OK {
		t.Errorf("Orders %v: %d, %d", name, n, g)
	}
	if l, g := fold.Ring(x.b); !slices.Equal(l, x.ring) || g != f {
		t.Errorf("Ring %v: %v, %d", name, l, g)
	}
	if n, g := fold.Rounds(x.b); n != x.rounds || g != e {
		t.Errorf("Rounds %v: %d, %d", name, n, g)
	}
	if l, g := fold.Drop(x.b); !slices.Equal(l, x.drop) || g != api.OK {
		t.Errorf("Drop %v: %v, %d", name, l, g)
	}
}

// cross is a sheet of five flaps, of which only the flaps 0 and 1, 0 and 3, 1 and 2, 1 and 4, and 2 and 4 meet.
func cross(rules ...api.FoldRule) api.FoldSheet {
	return api.FoldSheet{
		Wide: 9, High: 9,
		Flaps: []api.FoldFlap{flap(api.FoldLeft, one(4), to(0, 2)), flap(api.FoldTop, one(4), to(3, 5)), flap(api.FoldRight, one(6), to(3, 5)), flap(api.FoldBottom, one(9), to(1, 1)), flap(api.FoldBottom, one(6), to(4, 4))},
		Rules: rules,
	}
}

// TestOrder is of P4.3 to P4.5, and of P4.7, on sheets that fold.
func TestOrder(t *testing.T) {
	meet := cross()
	for i, x := range [][3]int{{0, 1, 2}, {0, 2, 0}, {0, 3, 2}, {0, 4, 0}, {1, 2, 2}, {1, 3, 0}, {1, 4, 2}, {2, 3, 0}, {2, 4, 2}, {3, 4, 0}} {
		if n, e := fold.Meet(meet, x[0], x[1]); n != x[2] || e != api.OK {
			t.Errorf("Meet %d: %d, %d", i, n, e)
		}
	}
	for i, x := range []sheetAnswers{
		{short(), []int{1, 2, 0, 3}, 3, nil, 3, nil}, // of the chapter
		// no rules, or none that counts
		{withRules(example()), []int{0, 1, 2, 3}, 24, nil, 1, nil}, {pile(1), []int{0}, 1, nil, 1, nil}, {pile(2), []int{0, 1}, 2, nil, 1, nil}, {pile(7), []int{0, 1, 2, 3, 4, 5, 6}, 5040, nil, 1, nil},
		{withRules(example(), over(0, 3), over(3, 0), over(2, 3), over(3, 2)), []int{0, 1, 2, 3}, 24, nil, 1, nil}, {withRules(short(), over(0, 1), over(1, 0)), []int{0, 1, 2, 3}, 24, nil, 1, nil},
		// a rule counts if its flaps meet in some truth only
		{withRules(example(), over(0, 1)), []int{1, 0, 2, 3}, 12, nil, 2, nil}, {withRules(short(), over(0, 1)), []int{0, 1, 2, 3}, 24, nil, 1, nil},
		// the first order is not the first one round by round
		{pile(4, over(0, 3)), []int{1, 2, 3, 0}, 12, nil, 2, nil}, {pile(4, over(1, 0), over(2, 3)), []int{0, 1, 3, 2}, 6, nil, 2, nil}, {pile(3, over(0, 1), over(0, 2)), []int{1, 2, 0}, 2, nil, 2, nil},
		{pile(5, over(0, 4), over(1, 0), over(2, 1)), []int{3, 4, 0, 1, 2}, 5, nil, 4, nil}, {pile(3, over(0, 2)), []int{1, 2, 0}, 3, nil, 2, nil},
		// rows of flaps, and flaps over several ones
		{pile(7, chain(7)...), []int{0, 1, 2, 3, 4, 5, 6}, 1, nil, 7, nil}, {pile(5, over(0, 1), over(1, 2), over(2, 3), over(3, 4)), []int{4, 3, 2, 1, 0}, 1, nil, 5, nil},
		{pile(4, over(3, 0), over(3, 1), over(3, 2)), []int{0, 1, 2, 3}, 6, nil, 2, nil}, {pile(4, over(0, 3), over(1, 3), over(2, 3)), []int{3, 0, 1, 2}, 6, nil, 2, nil},
		{pile(4, over(1, 0), over(2, 1), over(2, 0), over(3, 0)), []int{0, 1, 2, 3}, 3, nil, 3, nil}, {pile(6, over(1, 0), over(2, 1), over(3, 2), over(5, 4), over(3, 5)), []int{0, 1, 2, 4, 5, 3}, 10, nil, 4, nil},
		{pile(7, append(chain(5), over(5, 0), over(6, 5), over(6, 1))...), []int{0, 1, 2, 3, 4, 5, 6}, 14, nil, 5, nil},
		// of what would be a ring two flaps do not meet
		{cross(over(1, 0), over(2, 1), over(0, 2)), []int{0, 1, 2, 3, 4}, 20, nil, 3, nil}, {cross(over(0, 3), over(3, 4), over(4, 1), over(1, 0)), []int{2, 3, 0, 1, 4}, 5, nil, 4, nil},
	} {
		x.check(t, i)
	}
}

// TestRing is of P4.3 to P4.5, and of P4.7, on sheets that do not fold.
func TestRing(t *testing.T) {
	for i, x := range []sheetAnswers{
		{example(), nil, 0, []int{0, 1, 2}, 0, []int{0}}, // of the chapter
		// a rule counts for a ring if its flaps meet in some truth
		{withRules(example(), over(0, 1), over(1, 0)), nil, 0, []int{0, 1}, 0, []int{0}}, {withRules(example(), over(3, 0), over(1, 2), over(2, 1)), nil, 0, []int{1, 2}, 0, []int{1}},
		// fewer flaps come before lesser ones, among as many the lesser ones
		{pile(5, over(1, 0), over(2, 1), over(0, 2), over(4, 3), over(3, 4)), nil, 0, []int{3, 4}, 0, []int{0, 3}}, {pile(4, over(3, 2), over(2, 3), over(1, 0), over(0, 1)), nil, 0, []int{0, 1}, 0, []int{0, 2}},
		{pile(4, over(0, 3), over(3, 0), over(2, 0), over(0, 2)), nil, 0, []int{0, 2}, 0, []int{0, 2}}, {pile(6, over(5, 4), over(3, 5), over(4, 3), over(2, 0), over(1, 2), over(0, 1)), nil, 0, []int{0, 2, 1}, 0, []int{0, 3}},
		{pile(4, over(1, 0), over(2, 1), over(0, 2), over(3, 1), over(0, 3)), nil, 0, []int{0, 1, 2}, 0, []int{0}}, {pile(4, over(3, 0), over(1, 3), over(0, 1), over(1, 0), over(2, 3), over(0, 2)), nil, 0, []int{0, 1}, 0, []int{0, 2}},
		{pile(4, over(3, 2), over(1, 3), over(2, 1), over(2, 0), over(1, 2), over(0, 3)), nil, 0, []int{1, 2}, 0, []int{0, 2}},
		// it goes from Under to Over
		{pile(3, over(1, 0), over(2, 1), over(0, 2)), nil, 0, []int{0, 1, 2}, 0, []int{0}}, {pile(3, over(0, 1), over(1, 2), over(2, 0)), nil, 0, []int{0, 2, 1}, 0, []int{0}}, {pile(5, over(4, 2), over(2, 3), over(3, 4)), nil, 0, []int{2, 4, 3}, 0, []int{0}},
		// each two that follow each other must meet, not all of the ring
		{cross(over(1, 0), over(4, 1), over(2, 4), over(1, 2), over(0, 3)), nil, 0, []int{1, 4, 2}, 0, []int{1}}, {cross(over(2, 1), over(4, 2), over(1, 4)), nil, 0, []int{1, 2, 4}, 0, []int{0}},
		{square(over(1, 0), over(2, 1), over(3, 2), over(0, 3)), nil, 0, []int{0, 1, 2, 3}, 0, []int{0}}, {square(over(0, 1), over(1, 2), over(2, 3), over(3, 0), over(2, 0), over(0, 2)), nil, 0, []int{0, 3, 2, 1}, 0, []int{0}},
		// the longest
		{pile(7, append(chain(7), over(0, 6))...), nil, 0, []int{0, 1, 2, 3, 4, 5, 6}, 0, []int{0}}, {pile(7, over(0, 6), over(6, 4), over(4, 2), over(2, 5), over(5, 3), over(3, 1), over(1, 0)), nil, 0, []int{0, 1, 3, 5, 2, 4, 6}, 0, []int{0}},
		// the fewest rules that go, and of as many the first ones
		{pile(3, over(1, 0), over(2, 1), over(0, 2), over(0, 1)), nil, 0, []int{0, 1}, 0, []int{0}}, {pile(3, over(0, 2), over(1, 0), over(2, 1), over(0, 1)), nil, 0, []int{0, 1}, 0, []int{1}}, {pile(3, over(0, 2), over(1, 0), over(2, 1), over(1, 2)), nil, 0, []int{1, 2}, 0, []int{2}},
		{pile(4, over(3, 2), over(1, 0), over(0, 1), over(2, 3)), nil, 0, []int{0, 1}, 0, []int{0, 1}}, {pile(4, over(2, 0), over(1, 0), over(0, 1), over(2, 3), over(3, 2)), nil, 0, []int{0, 1}, 0, []int{1, 3}},
		{pile(3, over(0, 1), over(1, 0), over(1, 2), over(2, 1), over(2, 0), over(0, 2)), nil, 0, []int{0, 1}, 0, []int{0, 2, 5}}, {pile(4, over(0, 1), over(1, 2), over(0, 3), over(3, 2), over(2, 0)), nil, 0, []int{0, 2, 1}, 0, []int{4}},
		{pile(7, over(0, 1), over(1, 0), over(2, 3), over(3, 2), over(4, 5), over(5, 4), over(0, 6), over(6, 0), over(2, 4), over(4, 2)), nil, 0, []int{0, 1}, 0, []int{0, 2, 4, 6, 8}},
		{pile(5, over(0, 1), over(1, 2), over(2, 0), over(2, 3), over(3, 4), over(4, 2)), nil, 0, []int{0, 2, 1}, 0, []int{0, 3}},
	} {
		x.check(t, i)
	}
}

// square is a sheet of four flaps, of which those of sides across do not meet, and the others do.
func square(rules ...api.FoldRule) api.FoldSheet {
	return api.FoldSheet{
		Wide: 10, High: 10,
		Flaps: []api.FoldFlap{flap(api.FoldLeft, one(5), to(0, 9)), flap(api.FoldTop, one(5), to(0, 9)), flap(api.FoldRight, one(5), to(0, 9)), flap(api.FoldBottom, one(5), to(0, 9))},
		Rules: rules,
	}
}

// TestShorter is of P4.6.
func TestShorter(t *testing.T) {
	both := []api.FoldRule{over(0, 1), over(1, 0)}
	wide := func(one, other api.Span) api.FoldSheet {
		return withRules(pair(flap(api.FoldLeft, one, to(0, 6)), flap(api.FoldRight, other, to(0, 6))), both...)
	}
	high := func(one, other api.Span) api.FoldSheet {
		return withRules(pair(flap(api.FoldBottom, one, to(0, 8)), flap(api.FoldTop, other, to(0, 8))), both...)
	}
	corner := withRules(pair(flap(api.FoldLeft, to(1, 6), to(2, 4)), flap(api.FoldTop, to(1, 5), to(2, 4))), both...)
	for i, x := range []struct {
		b    api.FoldSheet
		flap int
		want int
		e    api.Errno
	}{
		// of the chapter
		{example(), 0, 1, api.OK}, {example(), 1, 1, api.OK}, {example(), 3, 0, api.ErrNone}, {example(), 2, 0, api.ErrNone},
		// it folds as it is
		{short(), 0, 0, api.OK}, {short(), 1, 0, api.OK}, {short(), 2, 0, api.OK}, {short(), 3, 0, api.OK}, {pile(1), 0, 0, api.OK}, {withRules(example()), 1, 0, api.OK},
		// as far as to Low, and not below
		{reaches(example(), 0, to(1, 9)), 0, 4, api.OK}, {reaches(example(), 0, to(5, 9)), 0, 4, api.OK}, {reaches(example(), 0, to(6, 9)), 0, 0, api.ErrNone}, {reaches(example(), 0, one(6)), 0, 0, api.ErrNone}, {reaches(example(), 0, one(6)), 1, 1, api.OK},
		{reaches(example(), 0, to(2, 10)), 1, 0, api.ErrNone}, {reaches(example(), 2, to(1, 3)), 2, 0, api.ErrNone}, {reaches(example(), 1, to(3, 5)), 1, 1, api.OK},
		{wide(to(1, 9), one(1)), 0, 1, api.OK}, {wide(to(1, 9), one(8)), 0, 8, api.OK}, {wide(to(1, 9), one(9)), 0, 0, api.ErrNone}, {wide(to(4, 9), to(2, 5)), 0, 5, api.OK}, {wide(to(5, 9), to(2, 5)), 0, 0, api.ErrNone}, {wide(to(5, 9), to(2, 5)), 1, 0, api.ErrNone}, {wide(to(5, 7), to(2, 5)), 1, 3, api.OK},
		{high(to(1, 7), to(1, 2)), 0, 2, api.OK}, {high(to(3, 7), to(1, 4)), 0, 4, api.OK}, {high(to(4, 7), to(1, 4)), 0, 0, api.ErrNone}, {high(to(1, 4), to(2, 7)), 1, 4, api.OK}, {high(to(1, 5), to(3, 7)), 1, 0, api.ErrNone},
		{corner, 0, 4, api.OK}, {corner, 1, 3, api.OK},
		// another ring is left
		{withRules(example(), append(example().Rules, over(1, 3))...), 0, 0, api.ErrNone}, {pile(4, over(0, 1), over(1, 0)), 0, 0, api.ErrNone}, {pile(4, over(0, 1), over(1, 0)), 3, 0, api.ErrNone},
		{withRules(reaches(example(), 0, to(1, 10)), over(0, 1), over(1, 0), over(0, 2), over(2, 0)), 0, 8, api.OK}, {withRules(reaches(example(), 0, to(3, 10)), over(0, 1), over(1, 0), over(0, 2), over(2, 0)), 0, 0, api.ErrNone},
		// the most
		{api.FoldSheet{Wide: 99, High: 1, Flaps: []api.FoldFlap{flap(0, to(1, 99), one(0)), flap(1, one(98), one(0))}, Rules: both}, 0, 98, api.OK},
	} {
		if n, e := fold.Shorter(x.b, x.flap); n != x.want || e != x.e {
			t.Errorf("Shorter %d: %d, %d", i, n, e)
		}
	}
}
