package band_test

import (
	"math"
	"slices"
	"testing"

	"lucifer/api"
	"lucifer/band"
)

func to(low, high int) api.Span { return api.Span{Low: low, High: high} }

func one(n int) api.Span { return to(n, n) }

func roll(first, many int) api.BandRoll { return api.BandRoll{First: first, Many: many} }

func rolls(l ...api.BandRoll) []api.BandRoll { return l }

func note(kind, from, to int) api.BandNote { return api.BandNote{Kind: kind, From: from, To: to} }

func used(from, to int) api.BandNote { return note(api.BandUsed, from, to) }

func spoiled(from, to int) api.BandNote { return note(api.BandSpoiled, from, to) }

func left(from, to int) api.BandNote { return note(api.BandLeft, from, to) }

// example is the book of the chapter's examples, with more notes.
func example(more ...api.BandNote) api.BandBook {
	return api.BandBook{
		Rolls: rolls(roll(101, 6), roll(201, 5)),
		Notes: slices.Concat([]api.BandNote{used(101, 102), spoiled(104, 104), left(204, 205)}, more),
		Fill: api.FillBook{Promise: 50, Less: 2, More: 3, Group: 3, Hands: []api.Span{
			to(24, 26), to(24, 26), to(16, 18), to(16, 17), to(15, 18), to(49, 52), to(20, 30)}},
		Plan: []int{2, 5, 6, 7},
	}
}

// torn is a book that cannot be true: more bands were noted as used than boxes were closed.
func torn() api.BandBook { return example(used(201, 203), used(105, 106)) }

// closed is a book of so many boxes, of which so many must be filled by hand, with rolls and notes.
func closed(boxes, byHand int, rolls []api.BandRoll, notes ...api.BandNote) api.BandBook {
	b := api.BandBook{Rolls: rolls, Notes: notes, Fill: api.FillBook{Promise: 10, Group: 1}}
	for i := range boxes {
		hand := one(10)
		if i >= boxes-byHand {
			hand = to(9, 10)
		}
		b.Fill.Hands, b.Plan = append(b.Fill.Hands, hand), append(b.Plan, i+1)
	}
	return b
}

func withRolls(b api.BandBook, rolls ...api.BandRoll) api.BandBook {
	b.Rolls = rolls
	return b
}

func withNotes(b api.BandBook, notes ...api.BandNote) api.BandBook {
	b.Notes = notes
	return b
}

func withPlan(b api.BandBook, plan ...int) api.BandBook {
	b.Plan = plan
	return b
}

// filling is a book whose boxes are filled otherwise.
func filling(b api.BandBook, change func(*api.FillBook)) api.BandBook {
	b.Fill.Hands = slices.Clone(b.Fill.Hands)
	change(&b.Fill)
	return b
}

func wrongBooks() map[string]api.BandBook {
	b := example()
	r := func(rolls ...api.BandRoll) api.BandBook { return withRolls(example(), rolls...) }
	n := func(kind, from, to int) api.BandBook { return example(note(kind, from, to)) }
	p := func(plan ...int) api.BandBook { return withPlan(example(), plan...) }
	f := func(change func(*api.FillBook)) api.BandBook { return filling(example(), change) }
	return map[string]api.BandBook{
		"nothing":                    {},
		"no rolls":                   r(),
		"4 rolls":                    r(roll(1, 1), roll(2, 1), roll(3, 1), roll(4, 1)),
		"100000 rolls":               r(slices.Repeat(b.Rolls, 50000)...),
		"a roll from 0 on":           r(roll(0, 5)),
		"a roll from -1 on":          r(roll(-1, 5)),
		"a roll hugely below":        r(roll(math.MinInt, 5)),
		"a roll of no bands":         r(roll(101, 0)),
		"a roll of -1":               r(roll(101, -1)),
		"a roll of 21":               r(roll(101, 21)),
		"a huge roll":                r(roll(101, math.MaxInt)),
		"a hugely negative roll":     r(roll(101, math.MinInt)),
		"a roll up to 10000":         r(roll(9981, 20)),
		"a roll of 10000":            r(roll(10000, 1)),
		"a roll from far on":         r(roll(math.MaxInt, 1)),
		"all of a roll huge":         r(roll(math.MaxInt, math.MaxInt)),
		"all of it hugely negative":  r(roll(math.MinInt, math.MinInt)),
		"rolls with a common band":   r(roll(101, 6), roll(106, 5)),
		"a roll in another one":      r(roll(101, 6), roll(103, 1)),
		"the same roll twice":        r(roll(101, 6), roll(101, 6)),
		"a roll before another one":  r(roll(201, 5), roll(101, 6)),
		"the last roll before":       r(roll(101, 6), roll(201, 5), roll(151, 5)),
		"the last roll common":       r(roll(101, 6), roll(201, 5), roll(205, 1)),
		"the last roll is nothing":   r(roll(101, 6), roll(201, 5), roll(0, 0)),
		"the last roll far on":       r(roll(101, 6), roll(201, 5), roll(9999, 2)),
		"9 notes":                    withNotes(b, slices.Repeat([]api.BandNote{used(101, 101)}, 9)...),
		"100000 notes":               withNotes(b, slices.Repeat([]api.BandNote{used(101, 101)}, 100000)...),
		"a note that is nothing":     n(0, 0, 0),
		"a note of missing bands":    n(api.BandMissing, 105, 105),
		"a note of kind 4":           n(4, 105, 105),
		"a note of kind -1":          n(-1, 105, 105),
		"a note of a huge kind":      n(math.MaxInt, 105, 105),
		"of a hugely negative kind":  n(math.MinInt, 105, 105),
		"a note from 0 on":           n(0, 0, 5),
		"a note from -1 on":          n(0, -1, 5),
		"a note hugely below":        n(0, math.MinInt, 5),
		"a note up to less":          n(0, 105, 104),
		"a note up to 0":             n(0, 1, 0),
		"a note up to hugely less":   n(0, 105, math.MinInt),
		"a note of 31":               n(0, 105, 135),
		"a note of 31 from 1 on":     n(2, 1, 31),
		"a huge note":                n(0, 105, math.MaxInt),
		"a note up to 10000":         n(0, 9999, 10000),
		"a note of 10000":            n(0, 10000, 10000),
		"a note from far on":         n(0, math.MaxInt, math.MaxInt),
		"a note from far on to less": n(0, math.MaxInt, math.MinInt),
		"all of a note huge":         n(math.MaxInt, math.MaxInt, math.MaxInt),
		"all of it negative":         n(math.MinInt, math.MinInt, math.MinInt),
		"the first note wrong":       withNotes(b, note(3, 101, 102), b.Notes[1]),
		"boxes of nothing":           f(func(f *api.FillBook) { f.Promise = 0 }),
		"a label of less than all":   f(func(f *api.FillBook) { f.Less = 50 }),
		"boxes without handfuls":     f(func(f *api.FillBook) { f.Group = 0 }),
		"a handful that is wrong":    f(func(f *api.FillBook) { f.Hands[6] = to(20, 31) }),
		"no handfuls for the boxes":  f(func(f *api.FillBook) { f.Hands = nil }),
		"boxes of fewer handfuls":    f(func(f *api.FillBook) { f.Group = 2 }),
		"no plan":                    p(),
		"a plan of less":             p(2, 5, 6),
		"a plan of more":             p(2, 5, 6, 8),
		"a box of 4":                 p(2, 6, 7),
		"a box of none":              p(2, 2, 5, 6, 7),
		"a box of none first":        p(0, 2, 5, 6, 7),
		"a plan that goes back":      p(2, 1, 4, 7),
		"a plan of huge numbers":     p(math.MaxInt, math.MinInt),
		"a plan of 100000":           p(slices.Repeat([]int{2}, 100000)...),
		"a plan of nothing":          withPlan(closed(0, 0, rolls(roll(1, 1))), 0),
		"a wrong label of no boxes":  filling(closed(0, 0, rolls(roll(1, 1))), func(f *api.FillBook) { f.Promise = 501 }),
	}
}

func rightBooks() map[string]api.BandBook {
	most := rolls(roll(9940, 20), roll(9960, 20), roll(9980, 20))
	long := make([]api.BandNote, 8)
	for i := range long {
		long[i] = note(i%3, 9970, 9999)
	}
	return map[string]api.BandBook{
		"the example":     example(),
		"torn":            torn(),
		"the least":       closed(0, 0, rolls(roll(1, 1))),
		"empty lists":     {Rolls: rolls(roll(1, 1)), Notes: []api.BandNote{}, Fill: api.FillBook{Promise: 1, Group: 1, Hands: []api.Span{}}, Plan: []int{}},
		"the most":        closed(8, 8, most, long...),
		"the last band":   closed(1, 0, rolls(roll(9999, 1))),
		"rolls of 1":      closed(1, 0, rolls(roll(1, 1), roll(2, 1), roll(3, 1))),
		"rolls far apart": closed(1, 0, rolls(roll(1, 20), roll(9980, 20))),
		"other numbers":   example(used(1, 30), left(9970, 9999), spoiled(9999, 9999), left(1, 1)),
		"the same again":  withNotes(example(), slices.Repeat([]api.BandNote{used(101, 101)}, 8)...),
		"another plan":    withPlan(example(), 1, 3, 6, 7),
	}
}

type result struct {
	e    api.Errno
	zero bool // all other results are zero
}

// allErrors calls each function, with the book and what else it takes.
func allErrors(b api.BandBook, number, rate int) map[string]result {
	got := map[string]result{"Check": {band.Check(b), true}}
	list := func(name string, l []int, e api.Errno) { got[name] = result{e, len(l) == 0} }
	span := func(name string, s api.Span, e api.Errno) { got[name] = result{e, s == api.Span{}} }
	s, e := band.Used(b)
	span("Used", s, e)
	is, e := band.Right(b)
	got["Right"] = result{e, !is}
	l, e := band.Strange(b)
	list("Strange", l, e)
	first, second, e := band.Clash(b)
	got["Clash"] = result{e, first == 0 && second == 0}
	s, e = band.Missing(b)
	span("Missing", s, e)
	n, e := band.What(b, number)
	got["What"] = result{e, n == 0}
	gaps, e := band.Gaps(b)
	got["Gaps"] = result{e, len(gaps) == 0}
	s, e = band.Due(b, rate)
	span("Due", s, e)
	l, e = band.Wrong(b)
	list("Wrong", l, e)
	return got
}

// TestCheck is of Check of P8.1 and, of the order of errors, P1.
func TestCheck(t *testing.T) {
	for name, b := range rightBooks() {
		for call, got := range allErrors(b, 1, 1) {
			if got.e == api.ErrBand || call == "Check" && got.e != api.OK {
				t.Errorf("%s of %s: %d", call, name, got.e)
			}
		}
	}
	for name, b := range wrongBooks() {
		for _, number := range []int{101, -1, math.MaxInt} {
			for call, got := range allErrors(b, number, number) {
				if got != (result{api.ErrBand, true}) {
					t.Errorf("%s of %s: %v", call, name, got)
				}
			}
		}
	}
}

// TestUsed is of Used of P8.1.
func TestUsed(t *testing.T) {
	few, many := rolls(roll(1, 1)), rolls(roll(1, 20), roll(21, 20))
	for i, x := range []struct {
		b    api.BandBook
		want api.Span
	}{
		{example(), to(4, 6)},                                                                                                                  // of the chapter
		{torn(), to(4, 6)}, {example(used(206, 207)), to(4, 6)}, {example(left(102, 103)), to(4, 6)}, {withRolls(example(), few...), to(4, 6)}, // whatever bands and notes there are
		{withPlan(example(), 2, 3, 4, 5, 6, 7), to(6, 10)}, {withPlan(example(), 1, 2, 3, 4, 5, 6, 7), to(7, 13)}, {withPlan(example(), 2, 5, 7), to(3, 5)},
		{closed(0, 0, few), one(0)}, {closed(1, 0, few), one(1)}, {closed(1, 1, few), to(1, 2)}, {closed(8, 0, few), one(8)}, {closed(8, 3, many), to(8, 11)}, {closed(8, 8, few), to(8, 16)}, {closed(8, 8, many), to(8, 16)},
	} {
		if s, e := band.Used(x.b); s != x.want || e != api.OK {
			t.Errorf("Used %d: %v, %d", i, s, e)
		}
	}
}

// TestRight is of Right of P8.2.
func TestRight(t *testing.T) {
	five := rolls(roll(1, 5))
	for i, x := range []struct {
		b    api.BandBook
		want bool
	}{
		{example(), true}, {torn(), false}, // of the chapter
		{example(used(206, 207)), false}, {example(used(107, 107)), false}, {example(left(205, 206)), false}, {example(left(100, 100)), false}, {example(left(199, 201)), false}, // never sold
		{example(left(102, 103)), false}, {example(left(101, 101)), false}, {example(used(101, 101)), false}, {example(used(205, 205)), false}, // with a number in common
		{example(left(103, 103)), true}, {example(used(103, 103), used(105, 106)), true}, {example(used(103, 103), used(201, 203)), true}, {example(used(103, 103), used(105, 106), used(203, 203)), true}, {example(used(103, 103), used(105, 106), used(202, 203)), false},
		{example(spoiled(105, 106), left(201, 203)), false}, {example(spoiled(105, 106), left(201, 202)), true}, // a band less than boxes
		{closed(5, 0, five), true}, {closed(6, 0, five), false}, {closed(6, 6, five), false}, {closed(0, 0, five), true}, {closed(0, 0, five, used(1, 1)), false}, {closed(0, 0, five, left(1, 5)), true},
		{closed(5, 0, five, used(1, 5)), true}, {closed(4, 0, five, used(1, 5)), false}, {closed(4, 1, five, used(1, 5)), true}, {closed(3, 1, five, used(1, 5)), false}, {closed(3, 2, five, used(1, 5)), true},
		{closed(5, 0, five, spoiled(5, 5)), false}, {closed(4, 0, five, spoiled(5, 5)), true}, {closed(4, 0, five, used(1, 4), left(5, 5)), true}, {closed(4, 0, five, used(1, 3), left(4, 5)), false}, {closed(3, 0, five, used(1, 3), left(4, 5)), true},
		// rolls side by side, and apart
		{closed(1, 0, rolls(roll(1, 3), roll(4, 3)), left(1, 5)), true}, {closed(1, 0, rolls(roll(1, 3), roll(5, 3)), left(3, 5)), false}, {closed(1, 0, rolls(roll(1, 3), roll(5, 3)), left(3, 3), left(5, 5)), true}, {closed(0, 0, rolls(roll(1, 20), roll(21, 20)), left(11, 40)), true},
	} {
		if is, e := band.Right(x.b); is != x.want || e != api.OK {
			t.Errorf("Right %d: %v, %d", i, is, e)
		}
	}
}

// TestStrange is of Strange of P8.2.
func TestStrange(t *testing.T) {
	apart := rolls(roll(1, 3), roll(5, 3), roll(9980, 20))
	for i, x := range []struct {
		b    api.BandBook
		want []int
	}{
		{example(), nil}, {example(used(206, 207)), []int{3}}, // of the chapter
		{torn(), nil}, {withNotes(example()), nil}, {example(left(102, 103)), nil}, {example(used(205, 206)), []int{3}}, {example(used(100, 101)), []int{3}}, {example(used(106, 107)), []int{3}}, {example(left(106, 120)), []int{3}}, {example(left(200, 201)), []int{3}},
		{example(used(1, 1), used(103, 103), spoiled(9999, 9999), left(107, 107), left(105, 106)), []int{3, 5, 6}}, {withNotes(example(), left(99, 128), used(101, 106)), []int{0}}, {withNotes(example(), left(1, 30), used(107, 136)), []int{0, 1}},
		{closed(1, 0, apart, left(1, 3), left(3, 5), left(4, 4), left(5, 7), left(7, 8), left(1, 7), left(9970, 9999), left(9980, 9999)), []int{1, 2, 4, 5, 6}},
		{closed(1, 0, rolls(roll(1, 3), roll(4, 3)), left(2, 5), left(6, 7)), []int{1}}, {withRolls(example(), roll(300, 1)), []int{0, 1, 2}},
		{closed(1, 0, rolls(roll(1, 1)), slices.Repeat([]api.BandNote{used(2, 2)}, 8)...), []int{0, 1, 2, 3, 4, 5, 6, 7}},
	} {
		if l, e := band.Strange(x.b); !slices.Equal(l, x.want) || e != api.OK {
			t.Errorf("Strange %d: %v, %d", i, l, e)
		}
	}
}

// TestClash is of Clash of P8.2.
func TestClash(t *testing.T) {
	for i, x := range []struct {
		b           api.BandBook
		first, next int
		e           api.Errno
	}{
		{example(), 0, 0, api.ErrNone}, {example(left(102, 103)), 0, 3, api.OK}, // of the chapter
		{torn(), 0, 0, api.ErrNone}, {withNotes(example()), 0, 0, api.ErrNone}, {withNotes(example(), used(101, 101)), 0, 0, api.ErrNone}, {example(used(101, 102)), 0, 3, api.OK}, {example(used(103, 103)), 0, 0, api.ErrNone},
		{example(left(103, 104)), 1, 3, api.OK}, {example(left(105, 106)), 0, 0, api.ErrNone}, {example(left(103, 105)), 1, 3, api.OK}, {example(left(200, 204)), 2, 3, api.OK}, {example(left(205, 205)), 2, 3, api.OK},
		// by one, then by other
		{example(left(204, 204), left(102, 102)), 0, 4, api.OK}, {example(left(204, 204), left(104, 104)), 1, 4, api.OK}, {example(left(104, 104), left(102, 102)), 0, 4, api.OK}, {example(left(102, 102), left(101, 101)), 0, 3, api.OK}, {example(left(105, 105), left(106, 106), left(105, 105)), 3, 5, api.OK},
		// of numbers that no bands have
		{example(used(206, 207), used(207, 208)), 3, 4, api.OK}, {example(used(206, 207), used(208, 209)), 0, 0, api.ErrNone}, {example(left(9999, 9999), used(1, 1), left(9970, 9999)), 3, 5, api.OK}, {example(left(1, 30), used(30, 59)), 3, 4, api.OK}, {example(left(1, 30), used(31, 60)), 0, 0, api.ErrNone},
		{withNotes(example(), used(105, 105), used(101, 106)), 0, 1, api.OK}, {withNotes(example(), used(101, 106), used(105, 105)), 0, 1, api.OK}, {withNotes(example(), used(105, 106), used(103, 104), used(101, 102), used(106, 107)), 0, 3, api.OK},
	} {
		if first, next, e := band.Clash(x.b); first != x.first || next != x.next || e != x.e {
			t.Errorf("Clash %d: %d, %d, %d", i, first, next, e)
		}
	}
}

// TestMissing is of P8.3.
func TestMissing(t *testing.T) {
	five := rolls(roll(1, 5))
	for i, x := range []struct {
		b    api.BandBook
		want api.Span
		e    api.Errno
	}{
		{example(), to(2, 4), api.OK}, {example(used(201, 203)), to(2, 3), api.OK}, {torn(), api.Span{}, api.ErrBandFalse}, // of the chapter
		{example(used(206, 207)), api.Span{}, api.ErrBandFalse}, {example(left(102, 103)), api.Span{}, api.ErrBandFalse}, {example(left(103, 103)), to(1, 3), api.OK}, {example(spoiled(103, 103)), to(1, 3), api.OK}, {example(used(103, 103)), to(2, 4), api.OK},
		{example(used(103, 103), used(201, 201)), to(2, 4), api.OK}, {example(used(103, 103), used(201, 202)), to(2, 3), api.OK}, {example(used(103, 103), used(201, 203)), one(2), api.OK}, {example(left(201, 203)), to(0, 1), api.OK}, {example(left(105, 106), left(201, 202)), one(0), api.OK},
		{withNotes(example()), to(5, 7), api.OK}, {withPlan(example(), 2, 5, 7), to(3, 5), api.OK}, {withPlan(example(), 2, 3, 4, 5, 6, 7), to(0, 2), api.OK},
		{closed(3, 0, five), one(2), api.OK}, {closed(3, 1, five), to(1, 2), api.OK}, {closed(3, 3, five), to(0, 2), api.OK}, {closed(5, 5, five), one(0), api.OK}, {closed(6, 1, five), api.Span{}, api.ErrBandFalse}, {closed(0, 0, five), one(5), api.OK},
		{closed(3, 1, five, used(1, 4)), one(1), api.OK}, {closed(3, 1, five, used(1, 3)), to(1, 2), api.OK}, {closed(3, 2, five, used(1, 5)), one(0), api.OK}, {closed(0, 0, five, spoiled(1, 2), left(3, 5)), one(0), api.OK}, {closed(0, 0, rolls(roll(1, 20), roll(21, 20), roll(41, 20))), one(60), api.OK},
	} {
		if s, e := band.Missing(x.b); s != x.want || e != x.e {
			t.Errorf("Missing %d: %v, %d", i, s, e)
		}
	}
}

// TestWhat is of P8.4.
func TestWhat(t *testing.T) {
	three := rolls(roll(1, 3))
	apart := closed(1, 0, rolls(roll(1, 3), roll(5, 3)))
	for i, x := range []struct {
		b            api.BandBook
		number, want int
		e            api.Errno
	}{
		{example(), 101, 1, api.OK}, {example(), 104, 2, api.OK}, {example(), 205, 4, api.OK}, {example(), 103, 9, api.OK}, {example(), 203, 9, api.OK}, {example(used(201, 203)), 103, 9, api.OK}, // of the chapter
		{example(), 102, 1, api.OK}, {example(), 204, 4, api.OK}, {example(), 105, 9, api.OK}, {example(), 106, 9, api.OK}, {example(), 201, 9, api.OK},
		{example(used(103, 103), used(201, 203)), 105, 8, api.OK}, {example(used(103, 103), used(201, 203)), 202, 1, api.OK}, {example(left(105, 106), left(201, 202)), 103, 1, api.OK}, {example(left(105, 106), left(201, 202)), 203, 1, api.OK}, {example(left(105, 106), left(201, 201)), 103, 9, api.OK},
		{closed(3, 0, three), 2, 1, api.OK}, {closed(3, 3, three), 3, 1, api.OK}, {closed(2, 0, three), 1, 9, api.OK}, {closed(2, 1, three), 1, 9, api.OK}, {closed(0, 0, three), 1, 8, api.OK}, {closed(1, 0, three, used(2, 2)), 1, 8, api.OK}, {closed(1, 1, three, used(2, 2)), 1, 9, api.OK}, {closed(2, 0, three, left(2, 2)), 1, 1, api.OK},
		{example(), 100, 0, api.ErrBandAsk}, {example(), 107, 0, api.ErrBandAsk}, {example(), 200, 0, api.ErrBandAsk}, {example(), 206, 0, api.ErrBandAsk}, {example(), 0, 0, api.ErrBandAsk}, {example(), -1, 0, api.ErrBandAsk}, {example(), math.MaxInt, 0, api.ErrBandAsk}, {example(), math.MinInt, 0, api.ErrBandAsk},
		{apart, 4, 0, api.ErrBandAsk}, {apart, 3, 9, api.OK}, {apart, 5, 9, api.OK}, {apart, 7, 9, api.OK}, {apart, 8, 0, api.ErrBandAsk},
		{torn(), 101, 0, api.ErrBandFalse}, {torn(), 103, 0, api.ErrBandFalse}, {torn(), 104, 0, api.ErrBandFalse}, {torn(), 200, 0, api.ErrBandAsk}, {example(used(206, 207)), 206, 0, api.ErrBandAsk}, {example(used(206, 207)), 101, 0, api.ErrBandFalse}, {example(left(102, 103)), 205, 0, api.ErrBandFalse}, {closed(4, 0, three), 1, 0, api.ErrBandFalse}, {closed(4, 0, three), 4, 0, api.ErrBandAsk},
	} {
		if n, e := band.What(x.b, x.number); n != x.want || e != x.e {
			t.Errorf("What %d: %d, %d", i, n, e)
		}
	}
}

// TestGaps is of P8.5.
func TestGaps(t *testing.T) {
	near := rolls(roll(1, 3), roll(4, 3))
	for i, x := range []struct {
		b    api.BandBook
		want []api.BandRoll
	}{
		{example(), rolls(roll(103, 1), roll(105, 2), roll(201, 3))}, // of the chapter
		{torn(), rolls(roll(103, 1))}, {withNotes(example()), example().Rolls}, {example(used(103, 106), used(201, 203)), nil}, {example(used(105, 105)), rolls(roll(103, 1), roll(106, 1), roll(201, 3))}, {example(left(201, 201), left(203, 203)), rolls(roll(103, 1), roll(105, 2), roll(202, 1))},
		// of books that cannot be true
		{example(used(206, 207)), rolls(roll(103, 1), roll(105, 2), roll(201, 3))}, {example(left(106, 107)), rolls(roll(103, 1), roll(105, 1), roll(201, 3))}, {example(left(102, 103)), rolls(roll(105, 2), roll(201, 3))}, {example(left(102, 105)), rolls(roll(106, 1), roll(201, 3))}, {closed(8, 0, rolls(roll(1, 2))), rolls(roll(1, 2))},
		// of rolls side by side
		{closed(1, 0, near), near}, {closed(1, 0, near, left(3, 4)), rolls(roll(1, 2), roll(5, 2))}, {closed(1, 0, near, left(2, 2), left(6, 6)), rolls(roll(1, 1), roll(3, 1), roll(4, 2))}, {closed(1, 0, near, left(1, 3)), rolls(roll(4, 3))}, {closed(1, 0, near, left(4, 6)), rolls(roll(1, 3))}, {closed(1, 0, near, left(1, 30)), nil}, {closed(1, 0, near, left(1, 1), left(3, 3), left(5, 5)), rolls(roll(2, 1), roll(4, 1), roll(6, 1))},
		// by their numbers, in whichever order the notes are
		{closed(1, 0, rolls(roll(9980, 20)), used(9990, 9991), left(9985, 9985), left(9998, 9998), spoiled(9980, 9980)), rolls(roll(9981, 4), roll(9986, 4), roll(9992, 6), roll(9999, 1))},
	} {
		if l, e := band.Gaps(x.b); !slices.Equal(l, x.want) || e != api.OK {
			t.Errorf("Gaps %d: %v, %d", i, l, e)
		}
	}
}

// TestDue is of P8.6.
func TestDue(t *testing.T) {
	five := rolls(roll(1, 5))
	for i, x := range []struct {
		b    api.BandBook
		rate int
		want api.Span
		e    api.Errno
	}{
		{example(), 10, to(10, 30), api.OK}, // of the chapter
		{example(), 0, one(0), api.OK}, {example(), 1, to(1, 3), api.OK}, {example(), 1000, to(1000, 3000), api.OK}, {example(), -1, api.Span{}, api.ErrBandAsk}, {example(), 1001, api.Span{}, api.ErrBandAsk}, {example(), math.MaxInt, api.Span{}, api.ErrBandAsk}, {example(), math.MinInt, api.Span{}, api.ErrBandAsk},
		{torn(), 10, api.Span{}, api.ErrBandFalse}, {torn(), 0, api.Span{}, api.ErrBandFalse}, {torn(), -1, api.Span{}, api.ErrBandAsk}, {torn(), 1001, api.Span{}, api.ErrBandAsk}, {example(used(206, 207)), 10, api.Span{}, api.ErrBandFalse}, {example(left(102, 103)), 1000, api.Span{}, api.ErrBandFalse},
		{example(spoiled(103, 103)), 10, to(-10, 10), api.OK}, {example(spoiled(105, 106)), 10, to(-30, -10), api.OK}, {example(left(105, 106)), 10, to(-10, 10), api.OK}, {example(used(201, 203)), 7, to(7, 14), api.OK}, {withNotes(example()), 3, to(15, 21), api.OK},
		{closed(3, 0, five), 9, one(18), api.OK}, {closed(3, 3, five), 9, to(0, 18), api.OK}, {closed(0, 0, five, spoiled(1, 5)), 1000, one(-5000), api.OK}, {closed(0, 0, rolls(roll(1, 20), roll(31, 20), roll(61, 20))), 1000, one(60000), api.OK}, {closed(0, 0, rolls(roll(1, 20), roll(21, 20), roll(41, 20)), spoiled(1, 30), spoiled(31, 60)), 1000, one(-60000), api.OK},
	} {
		if s, e := band.Due(x.b, x.rate); s != x.want || e != x.e {
			t.Errorf("Due %d: %v, %d", i, s, e)
		}
	}
}

// TestWrong is of P8.7.
func TestWrong(t *testing.T) {
	two, nine := rolls(roll(1, 2)), rolls(roll(1, 9))
	single := func(numbers ...int) []api.BandNote {
		var notes []api.BandNote
		for _, n := range numbers {
			notes = append(notes, used(n, n))
		}
		return notes
	}
	for i, x := range []struct {
		b    api.BandBook
		want []int
		e    api.Errno
	}{
		{torn(), []int{0}, api.OK}, // of the chapter
		{example(), nil, api.OK}, {withNotes(example()), nil, api.OK}, {example(used(206, 207)), []int{3}, api.OK}, {example(used(205, 206)), []int{3}, api.OK}, {example(left(102, 103)), []int{0}, api.OK}, {example(left(104, 104)), []int{1}, api.OK}, {example(left(103, 104), spoiled(102, 103)), []int{0, 3}, api.OK},
		{example(used(99, 101), used(107, 107)), []int{3, 4}, api.OK}, {example(used(1, 1), used(103, 103), used(2, 2)), []int{3, 5}, api.OK}, {example(left(201, 203), left(105, 106), left(103, 103)), []int{2}, api.OK},
		// fewer, though later ones
		{example(left(103, 104), left(105, 106), left(102, 105)), []int{1, 5}, api.OK}, {example(left(102, 104)), []int{3}, api.OK}, {example(left(100, 104), used(102, 102)), []int{0, 3}, api.OK},
		{closed(3, 0, nine, used(1, 1), used(2, 2), used(3, 4)), []int{0}, api.OK}, {closed(2, 0, nine, used(1, 1), used(2, 2), used(3, 4)), []int{2}, api.OK}, {closed(1, 0, nine, used(1, 1), used(2, 2), used(3, 4)), []int{0, 2}, api.OK}, {closed(0, 0, nine, used(1, 1), used(2, 2), used(3, 4)), []int{0, 1, 2}, api.OK},
		{closed(1, 0, nine, single(1, 2, 3)...), []int{0, 1}, api.OK}, {closed(1, 1, nine, single(1, 2, 3)...), []int{0}, api.OK}, {closed(0, 0, nine, single(1, 2, 3, 4, 5, 6, 7, 8)...), []int{0, 1, 2, 3, 4, 5, 6, 7}, api.OK}, {closed(1, 0, nine, single(1, 1, 1, 1, 1, 1, 1, 1)...), []int{0, 1, 2, 3, 4, 5, 6}, api.OK},
		// too many, or too few, that were used
		{closed(3, 0, rolls(roll(1, 3)), left(1, 1)), []int{0}, api.OK}, {closed(3, 0, nine, left(1, 3), left(4, 6), left(7, 9)), []int{0}, api.OK}, {closed(4, 0, nine, left(1, 3), left(4, 6), left(7, 9)), []int{0, 1}, api.OK}, {closed(4, 0, nine, left(1, 1), left(2, 2), left(4, 6), left(7, 9)), []int{2}, api.OK}, {closed(5, 0, nine, left(1, 1), left(2, 3), left(4, 6), left(7, 9)), []int{1, 2}, api.OK},
		// not even without any notes
		{closed(3, 0, two), nil, api.ErrBandFalse}, {closed(3, 3, two, left(1, 1)), nil, api.ErrBandFalse}, {closed(3, 0, two, used(1, 2)), nil, api.ErrBandFalse}, {closed(3, 0, two, used(1, 3)), nil, api.ErrBandFalse}, {closed(2, 2, two), nil, api.OK},
	} {
		if l, e := band.Wrong(x.b); !slices.Equal(l, x.want) || e != x.e {
			t.Errorf("Wrong %d: %v, %d", i, l, e)
		}
	}
}
