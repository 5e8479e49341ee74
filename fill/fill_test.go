package fill_test

import (
	"math"
	"slices"
	"testing"

	"lucifer/api"
	"lucifer/fill"
)

func to(low, high int) api.Span { return api.Span{Low: low, High: high} }

func one(n int) api.Span { return to(n, n) }

// each returns handfuls of which it is known how many splints they have.
func each(numbers ...int) []api.Span {
	var hands []api.Span
	for _, n := range numbers {
		hands = append(hands, one(n))
	}
	return hands
}

func label(promise, less, more, group int, hands ...api.Span) api.FillBook {
	return api.FillBook{Promise: promise, Less: less, More: more, Group: group, Hands: hands}
}

func withHands(b api.FillBook, hands ...api.Span) api.FillBook {
	b.Hands = hands
	return b
}

func withGroup(b api.FillBook, group int) api.FillBook {
	b.Group = group
	return b
}

// knowing is a book in which something else is known of a handful.
func knowing(b api.FillBook, hand int, s api.Span) api.FillBook {
	b.Hands = slices.Clone(b.Hands)
	b.Hands[hand] = s
	return b
}

// example is the book of the chapter's examples.
func example() api.FillBook {
	return label(50, 2, 3, 3, to(24, 26), to(24, 26), to(16, 18), to(16, 17), to(15, 18), to(49, 52), to(20, 30))
}

func even() api.FillBook {
	return label(50, 4, 4, 2, to(24, 26), to(23, 26), to(24, 27), one(25))
}

func between() api.FillBook { return label(50, 3, 3, 2, one(30), to(17, 27), one(25)) }

// exact is a book of boxes of 10, of up to so many handfuls.
func exact(group int, numbers ...int) api.FillBook {
	return label(10, 0, 0, group, each(numbers...)...)
}

func wrongBooks() map[string]api.FillBook {
	b := example()
	as := func(promise, less, more, group int) api.FillBook {
		return label(promise, less, more, group, b.Hands...)
	}
	h := func(s api.Span) api.FillBook { return knowing(b, 6, s) }
	return map[string]api.FillBook{
		"nothing":                {},
		"promise 0":              as(0, 0, 3, 3),
		"promise -1":             as(-1, 0, 3, 3),
		"promise 501":            as(501, 2, 3, 3),
		"a huge promise":         as(math.MaxInt, 2, 3, 3),
		"no promise at all":      as(math.MinInt, 2, 3, 3),
		"no promise, nor less":   as(math.MinInt, math.MinInt, 3, 3),
		"less -1":                as(50, -1, 3, 3),
		"less 51":                as(60, 51, 3, 3),
		"less is the promise":    as(2, 2, 3, 3),
		"less 1 of 1":            as(1, 1, 3, 3),
		"less above the promise": as(2, 3, 3, 3),
		"50 less of 50":          as(50, 50, 3, 3),
		"less huge":              as(50, math.MaxInt, 3, 3),
		"less hugely negative":   as(50, math.MinInt, 3, 3),
		"more -1":                as(50, 2, -1, 3),
		"more 51":                as(50, 2, 51, 3),
		"more huge":              as(50, 2, math.MaxInt, 3),
		"more hugely negative":   as(50, 2, math.MinInt, 3),
		"group 0":                as(50, 2, 3, 0),
		"group -1":               as(50, 2, 3, -1),
		"group 5":                as(50, 2, 3, 5),
		"a huge group":           as(50, 2, 3, math.MaxInt),
		"a hugely negative one":  as(50, 2, 3, math.MinInt),
		"9 hands":                withHands(b, make([]api.Span, 9)...),
		"a hand below 0":         h(to(-1, 4)),
		"a hand of -1":           h(one(-1)),
		"a hand of 201":          h(to(195, 201)),
		"only 201":               h(one(201)),
		"a hand 11 wide":         h(to(20, 31)),
		"a hand 11 wide from 0":  h(to(0, 11)),
		"a hand reversed":        h(to(5, 4)),
		"a huge hand":            h(to(0, math.MaxInt)),
		"only huge":              h(one(math.MaxInt)),
		"huge in all":            h(to(math.MinInt, math.MaxInt)),
		"hugely reversed":        h(to(math.MaxInt, math.MinInt)),
		"hugely negative":        h(one(math.MinInt)),
		"hugely negative first":  h(to(math.MinInt, 4)),
		"hand 0 is 11 wide":      knowing(b, 0, to(20, 31)),
		"no hands, and group 0":  label(50, 2, 3, 0),
	}
}

func rightBooks() map[string]api.FillBook {
	top := to(190, 200)
	return map[string]api.FillBook{
		"the example":       example(),
		"even":              even(),
		"between":           between(),
		"the least":         label(1, 0, 0, 1),
		"empty hands":       {Promise: 1, Group: 1, Hands: []api.Span{}},
		"the least hand":    label(1, 0, 0, 1, one(0)),
		"the most":          label(500, 50, 50, 4, top, top, top, top, top, top, top, top),
		"the most less":     label(51, 50, 0, 4, to(0, 10)),
		"less nearly all":   label(3, 2, 0, 1, to(0, 10)),
		"nothing less of 1": label(1, 0, 50, 4, one(200)),
		"more than there is": label(1, 0, 50, 1, to(190, 200),
			to(0, 10)),
	}
}

type result struct {
	e    api.Errno
	zero bool // all other results are zero
}

// allErrors calls each function, with the book and what else it takes.
func allErrors(b api.FillBook, from, to, many int, plan []int) map[string]result {
	got := map[string]result{"Check": {fill.Check(b), true}}
	number := func(name string, n int, e api.Errno) { got[name] = result{e, n == 0} }
	list := func(name string, l []int, e api.Errno) { got[name] = result{e, len(l) == 0} }
	span := func(name string, s api.Span, e api.Errno) { got[name] = result{e, s == api.Span{}} }
	is := func(name string, is bool, e api.Errno) { got[name] = result{e, !is} }
	s, e := fill.Sum(b, from, to)
	span("Sum", s, e)
	n, e := fill.Kind(b, from, to)
	number("Kind", n, e)
	ok, e := fill.Any(b, many)
	is("Any", ok, e)
	ok, e = fill.IsPlan(b, plan)
	is("IsPlan", ok, e)
	l, e := fill.ByHand(b, plan)
	list("ByHand", l, e)
	s, e = fill.Over(b, plan)
	span("Over", s, e)
	l, e = fill.Best(b)
	list("Best", l, e)
	n, e = fill.Boxes(b)
	number("Boxes", n, e)
	n, e = fill.Ask(b)
	number("Ask", n, e)
	return got
}

// TestCheck is of Check of P5.1 and, of the order of errors, P1.
func TestCheck(t *testing.T) {
	for name, b := range rightBooks() {
		for call, got := range allErrors(b, 0, 0, 1, nil) {
			if got.e == api.ErrFill {
				t.Errorf("%s of %s: %d", call, name, got.e)
			}
		}
	}
	for name, b := range wrongBooks() {
		for _, plan := range [][]int{nil, {-1}, {2, 5, 6, 7}} {
			for call, got := range allErrors(b, -1, -1, -1, plan) {
				if got != (result{api.ErrFill, true}) {
					t.Errorf("%s of %s: %v", call, name, got)
				}
			}
		}
	}
}

// TestSum is of Sum of P5.1.
func TestSum(t *testing.T) {
	top := rightBooks()["the most"]
	for i, x := range []struct {
		b        api.FillBook
		from, to int
		want     api.Span
		e        api.Errno
	}{
		{example(), 0, 2, to(48, 52), api.OK}, {example(), 2, 5, to(47, 53), api.OK}, {example(), 3, 3, one(0), api.OK}, // of the chapter
		{example(), 0, 0, one(0), api.OK}, {example(), 7, 7, one(0), api.OK}, {example(), 6, 7, to(20, 30), api.OK}, {example(), 0, 1, to(24, 26), api.OK},
		// more handfuls than a box takes
		{example(), 0, 7, to(164, 187), api.OK}, {withGroup(example(), 1), 2, 5, to(47, 53), api.OK}, {top, 0, 8, to(1520, 1600), api.OK},
		{withHands(example()), 0, 0, one(0), api.OK}, {between(), 1, 3, to(42, 52), api.OK},
		{example(), 3, 2, api.Span{}, api.ErrFillAsk}, {example(), 0, 8, api.Span{}, api.ErrFillAsk}, {example(), 8, 8, api.Span{}, api.ErrFillAsk}, {example(), 8, 7, api.Span{}, api.ErrFillAsk},
		{example(), -1, 2, api.Span{}, api.ErrFillAsk}, {example(), -1, -1, api.Span{}, api.ErrFillAsk}, {example(), -2, -1, api.Span{}, api.ErrFillAsk},
		{example(), 0, -1, api.Span{}, api.ErrFillAsk}, {example(), 0, math.MaxInt, api.Span{}, api.ErrFillAsk}, {example(), math.MaxInt, math.MaxInt, api.Span{}, api.ErrFillAsk},
		{example(), math.MinInt, 2, api.Span{}, api.ErrFillAsk}, {example(), math.MinInt, math.MaxInt, api.Span{}, api.ErrFillAsk}, {example(), math.MaxInt, math.MinInt, api.Span{}, api.ErrFillAsk},
		{withHands(example()), 0, 1, api.Span{}, api.ErrFillAsk}, {withHands(example()), 1, 1, api.Span{}, api.ErrFillAsk},
	} {
		if s, e := fill.Sum(x.b, x.from, x.to); s != x.want || e != x.e {
			t.Errorf("Sum %d: %v, %d", i, s, e)
		}
	}
}

// TestKind is of P5.2.
func TestKind(t *testing.T) {
	alone := func(s api.Span) api.FillBook { return withHands(example(), s) } // 48 to 53 are right
	for i, x := range []struct {
		b        api.FillBook
		from, to int
		want     int
		e        api.Errno
	}{
		// of the chapter, and of DOC.md
		{example(), 0, 2, api.FillRight, api.OK}, {example(), 2, 5, api.FillFew, api.OK}, {example(), 5, 7, api.FillMany, api.OK}, {example(), 6, 7, api.FillFew, api.OK},
		{example(), 5, 6, api.FillRight, api.OK}, {knowing(example(), 0, to(20, 30)), 0, 2, api.FillBoth, api.OK}, {example(), 4, 7, api.FillMany, api.OK}, {example(), 1, 2, api.FillFew, api.OK},
		// an end that is right, and one that is not by one
		{alone(to(48, 53)), 0, 1, api.FillRight, api.OK}, {alone(to(47, 53)), 0, 1, api.FillFew, api.OK}, {alone(to(48, 54)), 0, 1, api.FillMany, api.OK}, {alone(to(47, 54)), 0, 1, api.FillBoth, api.OK},
		{alone(one(47)), 0, 1, api.FillFew, api.OK}, {alone(one(48)), 0, 1, api.FillRight, api.OK}, {alone(one(53)), 0, 1, api.FillRight, api.OK}, {alone(one(54)), 0, 1, api.FillMany, api.OK},
		{alone(to(38, 47)), 0, 1, api.FillFew, api.OK}, {alone(to(54, 64)), 0, 1, api.FillMany, api.OK}, {alone(one(0)), 0, 1, api.FillFew, api.OK},
		{label(3, 2, 0, 1, to(0, 3)), 0, 1, api.FillFew, api.OK}, {label(3, 2, 0, 1, to(1, 3)), 0, 1, api.FillRight, api.OK},
		// as many handfuls as a box takes, and one more
		{exact(4, 1, 2, 3, 4, 5), 0, 4, api.FillRight, api.OK}, {exact(4, 1, 2, 3, 4, 5), 1, 5, api.FillMany, api.OK}, {exact(4, 1, 2, 3, 4, 5), 0, 5, 0, api.ErrFillAsk},
		{exact(1, 10, 10), 1, 2, api.FillRight, api.OK}, {exact(1, 5, 5), 0, 2, 0, api.ErrFillAsk}, {example(), 0, 4, 0, api.ErrFillAsk}, {example(), 0, 7, 0, api.ErrFillAsk},
		{example(), 3, 3, 0, api.ErrFillAsk}, {example(), 0, 0, 0, api.ErrFillAsk}, {example(), 7, 7, 0, api.ErrFillAsk}, {example(), 3, 2, 0, api.ErrFillAsk},
		{example(), -1, 2, 0, api.ErrFillAsk}, {example(), -2, -1, 0, api.ErrFillAsk}, {example(), 6, 8, 0, api.ErrFillAsk}, {example(), 7, 8, 0, api.ErrFillAsk}, {example(), 8, 9, 0, api.ErrFillAsk},
		{example(), math.MinInt, 0, 0, api.ErrFillAsk}, {example(), math.MinInt, math.MaxInt, 0, api.ErrFillAsk}, {example(), math.MaxInt, math.MinInt, 0, api.ErrFillAsk},
		{example(), math.MaxInt - 1, math.MaxInt, 0, api.ErrFillAsk}, {example(), math.MinInt, math.MinInt + 1, 0, api.ErrFillAsk},
		{withHands(example()), 0, 0, 0, api.ErrFillAsk}, {withHands(example()), 0, 1, 0, api.ErrFillAsk},
	} {
		if n, e := fill.Kind(x.b, x.from, x.to); n != x.want || e != x.e {
			t.Errorf("Kind %d: %d, %d", i, n, e)
		}
	}
}

// TestAny is of P5.3 and, by example, of P5.11.
func TestAny(t *testing.T) {
	for i, x := range []struct {
		b    api.FillBook
		many int
		want bool
		e    api.Errno
	}{
		{example(), 2, false, api.OK}, {even(), 2, true, api.OK}, {even(), 1, false, api.OK}, // of the chapter
		{example(), 7, false, api.OK}, {even(), 4, false, api.OK}, {even(), 3, false, api.OK},
		// one handful that is right does not help the others
		{exact(1, 10, 9, 10), 1, false, api.OK}, {exact(1, 9, 10, 10), 1, false, api.OK}, {exact(1, 10, 10, 11), 1, false, api.OK}, {exact(1, 10, 10, 10), 1, true, api.OK}, {exact(1, 10), 1, true, api.OK},
		// those that come one after the other are right, others are not
		{exact(2, 6, 4, 6, 4), 2, false, api.OK}, {exact(2, 5, 5, 5, 5), 2, true, api.OK}, {label(10, 2, 2, 2, each(6, 4, 6, 4)...), 2, true, api.OK},
		{label(10, 2, 1, 2, each(6, 4, 6, 4)...), 2, false, api.OK}, {label(10, 1, 2, 2, each(6, 4, 6, 4)...), 2, false, api.OK}, {label(10, 2, 2, 2, each(6, 6, 4, 4)...), 2, true, api.OK},
		// the least ends of some, the greatest ends of others: 23 and 24, 26 and 27
		{label(50, 3, 3, 2, even().Hands...), 2, true, api.OK}, {label(50, 2, 3, 2, even().Hands...), 2, false, api.OK}, {label(50, 3, 2, 2, even().Hands...), 2, false, api.OK},
		{label(50, 3, 3, 1, to(20, 30), one(25), one(25)), 2, false, api.OK}, {label(50, 5, 5, 1, to(20, 30), one(25), one(25)), 2, true, api.OK},
		// more handfuls than a box takes
		{exact(1, 5, 5, 5), 2, true, api.OK}, {exact(1, 1, 2, 3, 4), 4, true, api.OK}, {label(48, 0, 0, 4, each(6, 6, 6, 6, 6, 6, 6, 6)...), 8, true, api.OK}, {exact(2, 2, 2, 2, 2, 2), 5, true, api.OK},
		{example(), 0, false, api.ErrFillAsk}, {example(), -1, false, api.ErrFillAsk}, {example(), 8, false, api.ErrFillAsk}, {withHands(example()), 0, false, api.ErrFillAsk}, {withHands(example()), 1, false, api.ErrFillAsk},
		{example(), math.MaxInt, false, api.ErrFillAsk}, {example(), math.MinInt, false, api.ErrFillAsk},
	} {
		if is, e := fill.Any(x.b, x.many); is != x.want || e != x.e {
			t.Errorf("Any %d: %v, %d", i, is, e)
		}
	}
}

// TestPlans is of P5.4.
func TestPlans(t *testing.T) {
	for i, x := range []struct {
		b      api.FillBook
		plan   []int
		byHand []int
		over   api.Span
	}{
		{example(), []int{2, 5, 6, 7}, []int{1, 3}, to(-3, 4)}, {example(), []int{2, 3, 4, 5, 6, 7}, []int{1, 2, 3, 5}, to(-3, 4)}, {even(), []int{2, 4}, nil, to(-4, 4)}, {between(), []int{1, 3}, []int{0, 1}, one(0)}, // of the chapter
		{example(), []int{1, 4, 7}, []int{0, 1, 2}, one(0)}, {example(), []int{3, 6, 7}, []int{0, 1, 2}, one(0)}, {example(), []int{1, 2, 3, 4, 5, 6, 7}, []int{0, 1, 2, 3, 4, 6}, to(-1, 2)},
		// nothing to put into boxes, and one box
		{withHands(example()), nil, nil, one(0)}, {withHands(example()), []int{}, nil, one(0)}, {exact(1, 10), []int{1}, nil, one(0)}, {exact(1, 9), []int{1}, []int{0}, one(0)}, {exact(1, 0), []int{1}, []int{0}, one(0)},
		// of boxes that are right, all is reckoned for which the label promises nothing
		{label(10, 3, 0, 1, each(7, 8, 10)...), []int{1, 2, 3}, nil, one(-5)}, {label(10, 0, 3, 1, each(13, 12, 10)...), []int{1, 2, 3}, nil, one(5)}, {label(10, 3, 3, 1, to(7, 9), to(10, 13), to(0, 10)), []int{1, 2, 3}, []int{2}, to(-3, 2)},
		{label(10, 3, 0, 1, each(7, 8, 10, 11)...), []int{1, 2, 3, 4}, []int{3}, one(-5)},
		{exact(4, 1, 2, 3, 4), []int{4}, nil, one(0)}, {exact(4, 1, 2, 3, 4, 1, 2, 3, 4), []int{4, 8}, nil, one(0)}, {exact(4, 1, 2, 3, 4, 1, 2, 3, 4), []int{1, 5, 8}, []int{0, 2}, one(0)},
		{exact(1, 10, 9, 10, 9, 10, 9, 10, 9), []int{1, 2, 3, 4, 5, 6, 7, 8}, []int{1, 3, 5, 7}, one(0)},
	} {
		if is, e := fill.IsPlan(x.b, x.plan); !is || e != api.OK {
			t.Errorf("IsPlan %d: %v, %d", i, is, e)
		}
		if l, e := fill.ByHand(x.b, x.plan); !slices.Equal(l, x.byHand) || e != api.OK {
			t.Errorf("ByHand %d: %v, %d", i, l, e)
		}
		if s, e := fill.Over(x.b, x.plan); s != x.over || e != api.OK {
			t.Errorf("Over %d: %v, %d", i, s, e)
		}
	}
}

// TestNoPlans is of P5.4, of lists that are no plans.
func TestNoPlans(t *testing.T) {
	for i, x := range []struct {
		b    api.FillBook
		list []int
	}{
		{example(), []int{2, 6, 7}}, {example(), []int{2, 5, 6}}, {example(), []int{2, 2, 7}}, // of the chapter
		{example(), nil}, {example(), []int{}}, {example(), []int{7}}, {example(), []int{0}}, {example(), []int{0, 2, 5, 6, 7}}, {example(), []int{-1, 2, 5, 6, 7}}, {example(), []int{4, 7}}, {example(), []int{3, 7}},
		{example(), []int{2, 5, 6, 7, 7}}, {example(), []int{2, 5, 6, 7, 8}}, {example(), []int{2, 5, 6, 8}}, {example(), []int{2, 5, 8}}, {example(), []int{2, 5, 4, 7}}, {example(), []int{5, 2, 6, 7}}, {example(), []int{7, 6, 5, 2}},
		{example(), []int{2, 5, 6, 7, 6, 7}}, {example(), []int{2, 5, math.MaxInt}}, {example(), []int{2, 5, math.MinInt, 7}}, {example(), []int{math.MinInt, 2, 5, 7}}, {example(), []int{math.MaxInt, 7}}, {example(), []int{2, 5, 6, 7, 0}},
		{example(), slices.Repeat([]int{7}, 1000)}, {withGroup(example(), 2), []int{2, 5, 6, 7}}, {withGroup(example(), 1), []int{1, 2, 3, 4, 5, 7}}, {withGroup(even(), 4), []int{5}},
		{withHands(example()), []int{0}}, {withHands(example()), []int{1}}, {withHands(example()), []int{-1}}, {withHands(example()), []int{0, 0}},
	} {
		if is, e := fill.IsPlan(x.b, x.list); is || e != api.OK {
			t.Errorf("IsPlan %d: %v, %d", i, is, e)
		}
		if l, e := fill.ByHand(x.b, x.list); len(l) != 0 || e != api.ErrFillAsk {
			t.Errorf("ByHand %d: %v, %d", i, l, e)
		}
		if s, e := fill.Over(x.b, x.list); s != (api.Span{}) || e != api.ErrFillAsk {
			t.Errorf("Over %d: %v, %d", i, s, e)
		}
	}
}

// TestBest is of P5.5 and P5.6.
func TestBest(t *testing.T) {
	for i, x := range []struct {
		b     api.FillBook
		best  []int
		boxes int
	}{
		{example(), []int{2, 5, 6, 7}, 2}, {even(), []int{2, 4}, 2}, {between(), []int{1, 3}, 0}, // of the chapter
		{withHands(example()), nil, 0}, {exact(1, 10), []int{1}, 1}, {exact(4, 9), []int{1}, 0}, {exact(4, 0), []int{1}, 0}, {exact(4, 0, 0), []int{2}, 0},
		{knowing(example(), 2, to(17, 18)), []int{2, 5, 6, 7}, 3},
		// fewer boxes by hand come before more that are right
		{exact(3, 9, 10, 9), []int{3}, 1}, {exact(4, 9, 10, 10, 9), []int{4}, 2}, {exact(3, 9, 10, 10, 9), []int{1, 2, 3, 4}, 2},
		// of as few by hand the most boxes
		{exact(2, 10, 0, 10), []int{1, 3}, 2}, {label(10, 0, 10, 2, each(10, 10)...), []int{1, 2}, 2}, {label(10, 0, 10, 3, each(10, 10, 10)...), []int{1, 2, 3}, 3}, {exact(4, 10, 10, 10, 10), []int{1, 2, 3, 4}, 4},
		{exact(4, 5, 10, 10), []int{1, 2, 3}, 2}, {exact(4, 10, 10, 5), []int{1, 2, 3}, 2}, {exact(4, 10, 5, 10), []int{1, 2, 3}, 2},
		// of these the first one, element by element
		{exact(3, 1, 1, 1, 1), []int{1, 4}, 0}, {exact(2, 1, 1, 1), []int{1, 3}, 0}, {exact(4, 1, 1, 1, 1, 1), []int{1, 5}, 0}, {exact(3, 1, 1, 1, 1, 1), []int{2, 5}, 0}, {exact(2, 10, 0, 10, 0), []int{2, 4}, 2},
		{exact(3, 1, 1, 1, 1, 1, 1, 1), []int{1, 4, 7}, 0}, {exact(2, 0, 10, 0, 10, 0), []int{1, 3, 5}, 2}, {exact(4, 6, 4, 6, 4, 6), []int{1, 3, 5}, 2},
		{exact(4, 1, 2, 3, 4, 1, 2, 3, 4), []int{4, 8}, 2}, {exact(1, 1, 10, 1), []int{1, 2, 3}, 1}, {exact(1, 1, 1, 1, 1, 1, 1, 1, 1), []int{1, 2, 3, 4, 5, 6, 7, 8}, 0},
		// only what surely is right counts
		{label(10, 0, 0, 1, to(9, 10), one(10)), []int{1, 2}, 1}, {label(10, 1, 0, 2, to(9, 10), to(0, 1)), []int{1, 2}, 1}, {label(10, 1, 1, 2, to(9, 10), to(0, 1)), []int{2}, 1}, {label(10, 0, 2, 2, to(9, 10), to(1, 2)), []int{2}, 1},
	} {
		if l, e := fill.Best(x.b); !slices.Equal(l, x.best) || e != api.OK {
			t.Errorf("Best %d: %v, %d", i, l, e)
		}
		if n, e := fill.Boxes(x.b); n != x.boxes || e != api.OK {
			t.Errorf("Boxes %d: %d, %d", i, n, e)
		}
	}
}

// TestAsk is of P5.7.
func TestAsk(t *testing.T) {
	for i, x := range []struct {
		b    api.FillBook
		want int
		e    api.Errno
	}{
		{between(), 1, api.OK}, {withHands(example()), 0, api.ErrNone}, // of the chapter
		{example(), 0, api.OK}, {even(), 0, api.OK}, {exact(1, 10), 0, api.OK}, {exact(1, 9), 0, api.OK}, {exact(1, 0), 0, api.OK}, {exact(1, 0, 0), 0, api.OK},
		// of equal ones the first: nothing helps, or all is known, or each does
		{exact(2, 5, 5, 5), 0, api.OK}, {label(10, 0, 0, 1, to(0, 10), to(0, 10)), 0, api.OK}, {label(10, 0, 0, 1, one(10), to(9, 11)), 0, api.OK}, {label(10, 9, 0, 2, to(0, 1), one(10), to(0, 1)), 0, api.OK},
		// nothing and 10 make a box, and so does 1, but 10 and 1 do not
		{label(10, 9, 0, 2, to(0, 1), one(10)), 0, api.OK}, {label(10, 9, 0, 2, one(10), to(0, 1)), 1, api.OK}, {label(10, 9, 0, 2, to(3, 4), one(10), to(0, 1)), 2, api.OK}, {label(10, 9, 0, 2, to(3, 4), one(10), to(0, 1), one(10), to(1, 2)), 2, api.OK},
		{label(10, 9, 0, 1, one(10), to(0, 1)), 0, api.OK}, {label(10, 9, 1, 2, one(10), to(0, 1)), 0, api.OK}, {label(10, 8, 0, 2, one(10), to(0, 1)), 0, api.OK},
		{withHands(between(), one(50), one(30), to(17, 27), one(25)), 2, api.OK}, {withHands(between(), one(25), to(17, 27), one(30)), 1, api.OK},
		// at the worst: with 1, the handful 1 is no box, nor is it one with 10; the handful 4 is one, or is one with 9
		{label(10, 8, 0, 2, one(10), to(0, 2), one(10), one(9), to(0, 2)), 4, api.OK},
	} {
		if n, e := fill.Ask(x.b); n != x.want || e != x.e {
			t.Errorf("Ask %d: %d, %d", i, n, e)
		}
	}
}
