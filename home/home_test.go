package home_test

import (
	"math"
	"slices"
	"testing"

	"lucifer/api"
	"lucifer/home"
)

func to(low, high int) api.Span { return api.Span{Low: low, High: high} }

func one(n int) api.Span { return to(n, n) }

// flapped is the sheet of the chapter on folding whose flap 0 reaches as far as is told.
func flapped(reach api.Span) api.FoldSheet {
	return api.FoldSheet{
		Wide: 10, High: 8,
		Flaps: []api.FoldFlap{
			{Side: api.FoldLeft, Reach: reach, Along: to(0, 7)},
			{Side: api.FoldRight, Reach: to(4, 5), Along: to(0, 7)},
			{Side: api.FoldTop, Reach: one(3), Along: to(2, 7)},
			{Side: api.FoldBottom, Reach: one(2), Along: to(8, 9)},
		},
		Rules: []api.FoldRule{{Over: 1, Under: 0}, {Over: 2, Under: 1}, {Over: 0, Under: 2}, {Over: 3, Under: 1}},
	}
}

// piled is a sheet of so many flaps, each two of which meet, and each of which must lie over the one before it.
func piled(many int) api.FoldSheet {
	b := api.FoldSheet{Wide: 1, High: 1}
	for f := range many {
		b.Flaps = append(b.Flaps, api.FoldFlap{Side: f % 4, Reach: one(1)})
		if f > 0 {
			b.Rules = append(b.Rules, api.FoldRule{Over: f, Under: f - 1})
		}
	}
	return b
}

func worker(sheets int, back, torn api.Span, order ...int) api.HomeWorker {
	return api.HomeWorker{Sheets: sheets, Order: order, Back: back, Torn: torn}
}

// in is the worker who folds in another order.
func in(w api.HomeWorker, order ...int) api.HomeWorker {
	w.Order = order
	return w
}

// first and second are the workers of the chapter's examples.
func first() api.HomeWorker { return worker(300, to(288, 290), to(4, 6), 1, 2, 0, 3) }

func second() api.HomeWorker { return worker(150, to(140, 145), to(0, 2), 0, 1, 2, 3) }

// of is a book of workers, of the sheet and with the terms of the chapter's examples.
func of(workers ...api.HomeWorker) api.HomeBook {
	return api.HomeBook{Sheet: flapped(one(5)), Gross: 144, Pay: 60, Fine: 2, Workers: workers}
}

// example is the book of the chapter's examples.
func example() api.HomeBook { return of(first(), second()) }

func withSheet(b api.HomeBook, s api.FoldSheet) api.HomeBook {
	b.Sheet = s
	return b
}

func withTerms(b api.HomeBook, gross, pay, fine int) api.HomeBook {
	b.Gross, b.Pay, b.Fine = gross, pay, fine
	return b
}

func loose() api.HomeBook { return withSheet(example(), flapped(to(5, 6))) }

// untrue is a book in which the account of the worker 1 cannot be true.
func untrue() api.HomeBook {
	w := second()
	w.Sheets = 139
	return of(first(), w)
}

// folding is a book of so many workers, who bring back the same, of boxes of one flap, which always pass.
func folding(workers int) api.HomeBook {
	return withSheet(of(slices.Repeat([]api.HomeWorker{worker(12, to(9, 10), to(0, 1), 0)}, workers)...), piled(1))
}

func wrongBooks() map[string]api.HomeBook {
	terms := func(gross, pay, fine int) api.HomeBook { return withTerms(example(), gross, pay, fine) }
	s := func(change func(s *api.FoldSheet)) api.HomeBook {
		b := example()
		change(&b.Sheet)
		return b
	}
	w := func(sheets int, back, torn api.Span) api.HomeBook {
		return of(first(), worker(sheets, back, torn, 0, 1, 2, 3))
	}
	back := func(low, high int) api.HomeBook { return w(600, to(low, high), one(0)) }
	torn := func(low, high int) api.HomeBook { return w(600, one(0), to(low, high)) }
	o := func(order ...int) api.HomeBook { return of(first(), in(second(), order...)) }
	return map[string]api.HomeBook{
		"nothing":                     {},
		"no sheet":                    withSheet(example(), api.FoldSheet{}),
		"no sheet and no workers":     withSheet(of(), api.FoldSheet{}),
		"a sheet of no columns":       s(func(s *api.FoldSheet) { s.Wide = 0 }),
		"a sheet of no rows":          s(func(s *api.FoldSheet) { s.High = 0 }),
		"a sheet without flaps":       s(func(s *api.FoldSheet) { s.Flaps = nil }),
		"a flap that reaches too far": s(func(s *api.FoldSheet) { s.Flaps[0].Reach.High = 11 }),
		"a rule twice":                s(func(s *api.FoldSheet) { s.Rules[1] = s.Rules[0] }),
		"a wrong sheet of nobody's":   withSheet(of(), piled(8)),
		"gross of 0":                  terms(0, 60, 2),
		"gross of -1":                 terms(-1, 60, 2),
		"gross of 145":                terms(145, 60, 2),
		"a huge gross":                terms(math.MaxInt, 60, 2),
		"a hugely negative gross":     terms(math.MinInt, 60, 2),
		"pay of -1":                   terms(144, -1, 2),
		"pay of 1000":                 terms(144, 1000, 2),
		"huge pay":                    terms(144, math.MaxInt, 2),
		"hugely negative pay":         terms(144, math.MinInt, 2),
		"a fine of -1":                terms(144, 60, -1),
		"a fine of 100":               terms(144, 60, 100),
		"a huge fine":                 terms(144, 60, math.MaxInt),
		"a hugely negative fine":      terms(144, 60, math.MinInt),
		"wrong terms of nobody":       withTerms(of(), 0, 60, 2),
		"5 workers":                   folding(5),
		"100000 workers":              folding(100000),
		"a worker who is nothing":     of(first(), api.HomeWorker{}),
		"the worker 0 is nothing":     of(api.HomeWorker{}, second()),
		"-1 sheets":                   w(-1, one(0), one(0)),
		"601 sheets":                  w(601, one(0), one(0)),
		"huge sheets":                 w(math.MaxInt, one(0), one(0)),
		"hugely negative sheets":      w(math.MinInt, one(0), one(0)),
		"boxes from -1 on":            back(-1, 0),
		"boxes from hugely below":     back(math.MinInt, 0),
		"boxes up to less":            back(5, 4),
		"boxes up to hugely less":     back(5, math.MinInt),
		"boxes up to 601":             back(595, 601),
		"601 boxes":                   back(601, 601),
		"huge boxes":                  back(math.MaxInt, math.MaxInt),
		"boxes up to huge":            back(0, math.MaxInt),
		"boxes of all there is":       back(math.MinInt, math.MaxInt),
		"boxes the wrong way":         back(math.MaxInt, math.MinInt),
		"boxes 11 apart":              back(140, 151),
		"boxes 11 apart from 0 on":    back(0, 11),
		"torn ones from -1 on":        torn(-1, 0),
		"torn ones from hugely below": torn(math.MinInt, 0),
		"torn ones up to less":        torn(5, 4),
		"torn ones up to hugely less": torn(5, math.MinInt),
		"torn ones up to 601":         torn(595, 601),
		"601 torn ones":               torn(601, 601),
		"huge torn ones":              torn(math.MaxInt, math.MaxInt),
		"torn ones up to huge":        torn(0, math.MaxInt),
		"torn ones of all there is":   torn(math.MinInt, math.MaxInt),
		"torn ones the wrong way":     torn(math.MaxInt, math.MinInt),
		"torn ones 11 apart":          torn(140, 151),
		"torn ones 11 from 0 on":      torn(0, 11),
		"no order":                    o(),
		"an order of a flap less":     o(0, 1, 2),
		"an order of a flap more":     o(0, 1, 2, 3, 4),
		"an order of a flap twice":    o(0, 1, 2, 2),
		"and once more":               o(0, 1, 2, 3, 3),
		"an order from 1 on":          o(1, 2, 3, 4),
		"an order with -1":            o(-1, 1, 2, 3),
		"an order of huge numbers":    o(math.MaxInt, math.MinInt, 2, 3),
		"an order of 100000":          o(slices.Repeat([]int{0, 1, 2, 3}, 25000)...),
		"an order of another sheet":   withSheet(example(), piled(5)),
		"the order of worker 0":       of(in(first(), 0, 1, 2), second()),
		"all wrong but the order":     withTerms(withSheet(of(worker(-1, to(5, 4), to(-1, 0), 0)), piled(1)), 0, -1, -1),
	}
}

func rightBooks() map[string]api.HomeBook {
	seven := worker(600, to(590, 600), to(590, 600), 6, 5, 4, 3, 2, 1, 0)
	return map[string]api.HomeBook{
		"the example":          example(),
		"a loose sheet":        loose(),
		"an untrue account":    untrue(),
		"no workers":           of(),
		"empty workers":        {Sheet: piled(1), Gross: 1, Workers: []api.HomeWorker{}},
		"the least":            withTerms(withSheet(of(worker(0, one(0), one(0), 0)), piled(1)), 1, 0, 0),
		"the most":             withTerms(withSheet(of(slices.Repeat([]api.HomeWorker{seven}, 4)...), piled(7)), 144, 999, 99),
		"more came than given": of(worker(0, one(600), one(600), 3, 2, 1, 0)),
		"10 apart":             of(worker(600, to(0, 10), to(590, 600), 3, 2, 1, 0)),
		"a sheet of a ring":    withSheet(example(), flapped(one(7))),
	}
}

type result struct {
	e    api.Errno
	zero bool // all other results are zero
}

// allErrors calls each function, with the book and a worker's number.
func allErrors(b api.HomeBook, worker int) map[string]result {
	got := map[string]result{"Check": {home.Check(b), true}}
	span := func(name string, s api.Span, e api.Errno) { got[name] = result{e, s == api.Span{}} }
	number := func(name string, n int, e api.Errno) { got[name] = result{e, n == 0} }
	is, e := home.Right(b, worker)
	got["Right"] = result{e, !is}
	s, e := home.Passes(b, worker)
	span("Passes", s, e)
	s, e = home.Missing(b, worker)
	span("Missing", s, e)
	s, e = home.Gets(b, worker)
	span("Gets", s, e)
	s, e = home.Total(b)
	span("Total", s, e)
	s, e = home.Grosses(b)
	span("Grosses", s, e)
	l, e := home.Wrong(b)
	got["Wrong"] = result{e, len(l) == 0}
	n, e := home.Teach(b)
	number("Teach", n, e)
	n, e = home.Ask(b)
	number("Ask", n, e)
	return got
}

// TestCheck is of Check of P9.1 and, of the order of errors, P1.
func TestCheck(t *testing.T) {
	for name, b := range rightBooks() {
		for call, got := range allErrors(b, 0) {
			if got.e == api.ErrHome || call == "Check" && got.e != api.OK {
				t.Errorf("%s of %s: %d", call, name, got.e)
			}
		}
	}
	for name, b := range wrongBooks() {
		for _, worker := range []int{0, 1, -1, math.MaxInt} {
			for call, got := range allErrors(b, worker) {
				if got != (result{api.ErrHome, true}) {
					t.Errorf("%s of %s: %v", call, name, got)
				}
			}
		}
	}
}

// TestNobody is of ErrHomeAsk of P9.1 and P9.2, which comes before ErrHomeFalse.
func TestNobody(t *testing.T) {
	for name, b := range rightBooks() {
		many := len(b.Workers)
		for _, worker := range []int{many, -1, many + 1, 4, math.MaxInt, math.MinInt} {
			got := allErrors(b, worker)
			for _, call := range []string{"Right", "Passes", "Missing", "Gets"} {
				if want := (result{api.ErrHomeAsk, true}); got[call] != want {
					t.Errorf("%s of %s, %d: %v", call, name, worker, got[call])
				}
			}
		}
	}
}

// TestRight is of Right and Wrong of P9.1.
func TestRight(t *testing.T) {
	w := func(sheets int, back, torn api.Span) api.HomeWorker { return worker(sheets, back, torn, 0, 1, 2, 3) }
	for i, x := range []struct {
		b     api.HomeBook
		wrong []int
	}{
		{example(), nil}, {untrue(), []int{1}}, // of the chapter
		{loose(), nil}, {of(), nil}, {withSheet(untrue(), flapped(to(5, 6))), []int{1}}, {withSheet(untrue(), flapped(one(7))), []int{1}},
		{of(w(140, to(140, 145), to(0, 2))), nil}, {of(w(139, to(140, 145), to(0, 2))), []int{0}}, {of(w(142, one(140), to(2, 5))), nil}, {of(w(141, one(140), to(2, 5))), []int{0}}, {of(w(10, to(0, 10), to(10, 20))), nil}, {of(w(9, to(0, 10), to(10, 20))), []int{0}},
		{of(w(0, one(0), one(0))), nil}, {of(w(0, to(0, 10), to(0, 10))), nil}, {of(w(0, to(1, 10), to(0, 10))), []int{0}}, {of(w(0, to(0, 10), to(1, 10))), []int{0}}, {of(w(600, one(600), one(0))), nil}, {of(w(600, one(600), one(1))), []int{0}}, {of(w(600, one(0), one(0))), nil},
		{of(w(1, one(2), one(0)), w(2, one(2), one(0)), w(3, one(2), one(1)), w(2, one(2), one(1))), []int{0, 3}}, {of(slices.Repeat([]api.HomeWorker{w(1, one(2), one(0))}, 4)...), []int{0, 1, 2, 3}},
	} {
		if l, e := home.Wrong(x.b); !slices.Equal(l, x.wrong) || e != api.OK {
			t.Errorf("Wrong %d: %v, %d", i, l, e)
		}
		for worker := range x.b.Workers {
			if is, e := home.Right(x.b, worker); is == slices.Contains(x.wrong, worker) || e != api.OK {
				t.Errorf("Right %d of %d: %v, %d", i, worker, is, e)
			}
		}
	}
}

// TestGets is of P9.2.
func TestGets(t *testing.T) {
	w := func(sheets int, back, torn api.Span) api.HomeWorker { return worker(sheets, back, torn, 1, 2, 0, 3) }
	free := func(b api.HomeBook) api.HomeBook { return withTerms(b, 144, 60, 0) }
	most := w(600, one(600), one(0))
	for i, x := range []struct {
		b                     api.HomeBook
		worker                int
		passes, missing, gets api.Span
		e                     api.Errno
	}{
		// of the chapter
		{example(), 0, to(288, 290), to(4, 8), to(104, 112), api.OK}, {example(), 1, one(0), to(3, 10), to(-20, -6), api.OK}, {loose(), 0, to(0, 290), to(4, 8), to(-16, 112), api.OK}, {untrue(), 0, to(288, 290), to(4, 8), to(104, 112), api.OK}, {untrue(), 1, api.Span{}, api.Span{}, api.Span{}, api.ErrHomeFalse},
		// by the order
		{of(in(first(), 1, 2, 3, 0)), 0, to(288, 290), to(4, 8), to(104, 112), api.OK}, {of(in(first(), 1, 3, 2, 0)), 0, to(288, 290), to(4, 8), to(104, 112), api.OK}, {of(in(first(), 3, 1, 2, 0)), 0, one(0), to(4, 8), to(-16, -8), api.OK}, {of(in(first(), 0, 1, 2, 3)), 0, one(0), to(4, 8), to(-16, -8), api.OK}, {withSheet(of(in(first(), 1, 3, 2, 0)), flapped(to(5, 6))), 0, to(0, 290), to(4, 8), to(-16, 112), api.OK}, {withSheet(of(first()), flapped(one(7))), 0, one(0), to(4, 8), to(-16, -8), api.OK},
		{folding(1), 0, to(9, 10), to(1, 3), to(-6, -2), api.OK}, {withTerms(folding(4), 10, 60, 2), 3, to(9, 10), to(1, 3), to(-6, 58), api.OK},
		// no more than there were sheets
		{of(w(295, to(288, 290), to(4, 6))), 0, to(288, 290), to(0, 3), to(114, 120), api.OK}, {of(w(293, to(288, 290), to(4, 6))), 0, to(288, 289), to(0, 1), to(118, 120), api.OK}, {of(w(292, to(288, 290), to(4, 6))), 0, one(288), one(0), one(120), api.OK}, {of(w(291, to(288, 290), to(4, 6))), 0, api.Span{}, api.Span{}, api.Span{}, api.ErrHomeFalse}, {withSheet(of(w(293, to(288, 290), to(4, 6))), flapped(to(5, 6))), 0, to(0, 289), to(0, 1), to(-2, 120), api.OK},
		{of(w(10, to(0, 10), to(0, 10))), 0, to(0, 10), to(0, 10), to(-20, 0), api.OK}, {of(w(0, to(0, 10), to(0, 10))), 0, one(0), one(0), one(0), api.OK}, {of(w(5, to(0, 10), to(3, 10))), 0, to(0, 2), to(0, 2), to(-4, 0), api.OK},
		// a whole gross, and less
		{of(w(300, to(287, 288), one(5))), 0, to(287, 288), to(7, 8), to(44, 106), api.OK}, {of(w(300, one(287), one(5))), 0, one(287), one(8), one(44), api.OK}, {of(w(150, to(143, 144), one(0))), 0, to(143, 144), to(6, 7), to(-14, 48), api.OK}, {of(w(143, one(143), one(0))), 0, one(143), one(0), one(0), api.OK}, {of(w(144, one(144), one(0))), 0, one(144), one(0), one(60), api.OK},
		{withTerms(of(w(300, to(288, 290), to(4, 6))), 1, 60, 2), 0, to(288, 290), to(4, 8), to(17264, 17392), api.OK}, {withTerms(of(w(300, to(288, 290), to(4, 6))), 145, 60, 2), 0, api.Span{}, api.Span{}, api.Span{}, api.ErrHome}, {withTerms(of(w(12, to(9, 10), one(0))), 5, 7, 1), 0, to(9, 10), to(2, 3), to(4, 12), api.OK},
		// no pay, and no fine
		{withTerms(of(w(300, to(288, 290), to(4, 6))), 144, 0, 2), 0, to(288, 290), to(4, 8), to(-16, -8), api.OK}, {free(of(w(300, to(288, 290), to(4, 6)))), 0, to(288, 290), to(4, 8), one(120), api.OK}, {free(of(w(300, to(280, 290), to(4, 6)))), 0, to(280, 290), to(4, 16), to(60, 120), api.OK}, {withTerms(of(most), 144, 0, 0), 0, one(600), one(0), one(0), api.OK},
		// the most and the least of all
		{withTerms(of(most), 1, 999, 99), 0, one(600), one(0), one(599400), api.OK}, {withTerms(of(w(600, one(0), one(0))), 1, 999, 99), 0, one(0), one(600), one(-59400), api.OK}, {withTerms(withSheet(of(w(600, to(590, 600), to(0, 10))), flapped(to(5, 6))), 1, 999, 99), 0, to(0, 600), to(0, 10), to(-990, 599400), api.OK},
	} {
		for call, got := range map[string]struct {
			f    func(api.HomeBook, int) (api.Span, api.Errno)
			want api.Span
		}{"Passes": {home.Passes, x.passes}, "Missing": {home.Missing, x.missing}, "Gets": {home.Gets, x.gets}} {
			if s, e := got.f(x.b, x.worker); s != got.want || e != x.e {
				t.Errorf("%s %d: %v, %d", call, i, s, e)
			}
		}
	}
}

// TestTotal is of P9.3.
func TestTotal(t *testing.T) {
	w := func(sheets int, back, torn api.Span) api.HomeWorker { return worker(sheets, back, torn, 1, 2, 0, 3) }
	many := func(n int) []api.HomeWorker { return slices.Repeat([]api.HomeWorker{w(75, to(71, 72), one(0))}, n) }
	all := slices.Repeat([]api.HomeWorker{w(600, one(600), one(0))}, 4)
	none := slices.Repeat([]api.HomeWorker{w(600, one(0), one(0))}, 4)
	for i, x := range []struct {
		b              api.HomeBook
		total, grosses api.Span
		e              api.Errno
	}{
		{example(), to(84, 106), one(2), api.OK}, {loose(), to(-36, 106), to(0, 2), api.OK}, {untrue(), api.Span{}, api.Span{}, api.ErrHomeFalse}, // of the chapter
		{of(), one(0), one(0), api.OK}, {of(first()), to(104, 112), one(2), api.OK}, {of(second()), to(-20, -6), one(0), api.OK}, {of(second(), first()), to(84, 106), one(2), api.OK}, {of(first(), in(second(), 1, 2, 3, 0)), to(84, 166), to(2, 3), api.OK},
		// all boxes together, but each worker's gross
		{of(many(1)...), to(-8, -6), one(0), api.OK}, {of(many(2)...), to(-16, -12), to(0, 1), api.OK}, {of(many(3)...), to(-24, -18), one(1), api.OK}, {of(many(4)...), to(-32, -24), to(1, 2), api.OK}, {withTerms(of(many(2)...), 143, 60, 2), to(-16, -12), to(0, 1), api.OK}, {withTerms(of(many(2)...), 142, 60, 2), to(-16, -12), one(1), api.OK}, {withTerms(of(many(2)...), 72, 60, 2), to(-16, 108), to(1, 2), api.OK}, {withTerms(of(many(3)...), 1, 60, 2), to(12756, 12942), to(213, 216), api.OK},
		// a worker who is right does not help
		{of(worker(1, one(2), one(0), 1, 2, 0, 3), first(), second()), api.Span{}, api.Span{}, api.ErrHomeFalse}, {of(first(), second(), w(1, one(1), to(1, 2)), second()), api.Span{}, api.Span{}, api.ErrHomeFalse},
		{withTerms(of(all...), 1, 999, 99), one(2397600), one(2400), api.OK}, {withTerms(of(none...), 1, 999, 99), one(-237600), one(0), api.OK},
	} {
		if s, e := home.Total(x.b); s != x.total || e != x.e {
			t.Errorf("Total %d: %v, %d", i, s, e)
		}
		if s, e := home.Grosses(x.b); s != x.grosses || e != x.e {
			t.Errorf("Grosses %d: %v, %d", i, s, e)
		}
	}
}

// TestTeach is of P9.4.
func TestTeach(t *testing.T) {
	w := func(back int, order ...int) api.HomeWorker { return worker(600, to(back, back+10), one(0), order...) }
	good, bad := []int{1, 2, 0, 3}, []int{2, 0, 1, 3}
	ring := worker(1, one(2), one(0), bad...)
	pair := api.FoldSheet{Wide: 9, High: 9, Flaps: []api.FoldFlap{{Side: api.FoldLeft, Reach: to(4, 5)}, {Side: api.FoldRight, Reach: to(4, 5)}}, Rules: []api.FoldRule{{Over: 0, Under: 1}}}
	for i, x := range []struct {
		b    api.HomeBook
		want int
		e    api.Errno
	}{
		{example(), 1, api.OK}, {untrue(), 0, api.ErrHomeFalse}, // of the chapter
		{of(), 0, api.ErrNone}, {of(first()), 0, api.ErrNone}, {of(first(), in(second(), 3, 2, 1, 0)), 1, api.OK}, {of(first(), in(second(), 1, 2, 3, 0)), 0, api.ErrNone}, // in another order that does
		// of a sheet that does not fold, and of false accounts of one
		{loose(), 0, api.ErrNone}, {withSheet(example(), flapped(one(7))), 0, api.ErrNone}, {withSheet(untrue(), flapped(one(7))), 0, api.ErrHomeFalse}, {of(ring), 0, api.ErrHomeFalse},
		// by the most, and the first one
		{of(w(5, bad...), w(6, bad...)), 1, api.OK}, {of(w(6, bad...), w(5, bad...)), 0, api.OK}, {of(w(6, bad...), w(6, bad...)), 0, api.OK}, {of(w(9, good...), w(6, bad...), w(7, bad...), w(7, bad...)), 2, api.OK}, {of(w(9, good...), w(8, good...), w(0, bad...), w(1, bad...)), 3, api.OK},
		// without more boxes, at least
		{of(w(0, bad...)), 0, api.ErrNone}, {of(w(0, bad...), w(1, bad...)), 1, api.OK}, {of(w(0, bad...), w(0, bad...), w(9, good...)), 0, api.ErrNone},
		// as many boxes as there can be at least, whatever there can be at most
		{of(worker(20, to(5, 15), one(0), bad...), worker(20, to(6, 7), one(0), bad...)), 1, api.OK}, {of(worker(7, to(6, 16), one(0), bad...), worker(600, to(5, 15), one(0), bad...)), 0, api.OK},
		// boxes that perhaps pass
		{withSheet(of(worker(9, one(5), one(0), 0, 1), worker(9, one(5), one(0), 1, 0)), pair), 0, api.OK}, {withSheet(of(worker(9, one(5), one(0), 1, 0), worker(9, one(5), one(0), 0, 1), worker(9, one(6), one(0), 0, 1)), pair), 2, api.OK}, {withSheet(of(worker(9, one(5), one(0), 1, 0)), pair), 0, api.ErrNone},
		{folding(4), 0, api.ErrNone}, {withSheet(of(worker(9, one(5), one(0), 0, 1, 2, 3, 4, 5, 6), worker(9, one(5), one(0), 0, 1, 2, 3, 4, 6, 5)), piled(7)), 1, api.OK},
		// whatever is paid for them
		{withTerms(example(), 144, 0, 99), 1, api.OK},
	} {
		if n, e := home.Teach(x.b); n != x.want || e != x.e {
			t.Errorf("Teach %d: %d, %d", i, n, e)
		}
	}
}

// TestAsk is of P9.5.
func TestAsk(t *testing.T) {
	good, bad := []int{1, 2, 0, 3}, []int{2, 0, 1, 3}
	w := func(sheets int, back, torn api.Span) api.HomeWorker { return worker(sheets, back, torn, good...) }
	sure := w(300, one(288), one(5))
	for i, x := range []struct {
		b    api.HomeBook
		want int
		e    api.Errno
	}{
		{example(), 1, api.OK}, {untrue(), 0, api.ErrHomeFalse}, // of the chapter
		{of(), 0, api.ErrNone}, {of(sure), 0, api.ErrNone}, {of(sure, sure, sure, sure), 0, api.ErrNone}, {of(sure, second()), 1, api.OK}, {of(first()), 0, api.OK}, {loose(), 0, api.OK},
		// the farthest, and the first one
		{of(first(), first()), 0, api.OK}, {of(sure, first(), first()), 1, api.OK}, {of(second(), first()), 0, api.OK}, {of(w(300, one(288), to(0, 4)), w(300, one(288), to(0, 5)), w(300, one(288), to(0, 3))), 1, api.OK}, {of(w(300, to(283, 287), one(0)), w(300, to(287, 288), one(0))), 1, api.OK},
		// whatever came back, all that counts is what is paid
		{withTerms(of(w(300, to(280, 287), to(0, 9))), 144, 60, 0), 0, api.ErrNone}, {withTerms(of(w(300, to(280, 288), to(0, 9))), 144, 60, 0), 0, api.OK}, {withTerms(of(first(), second()), 144, 0, 0), 0, api.ErrNone}, {withTerms(of(w(300, to(280, 288), to(0, 9)), w(300, one(5), to(0, 1))), 144, 0, 1), 0, api.OK}, {of(w(0, to(0, 10), to(0, 10))), 0, api.ErrNone}, {of(w(292, to(288, 290), to(4, 6))), 0, api.ErrNone},
		{withTerms(of(worker(9, to(0, 9), one(0), bad...), w(600, to(590, 600), one(0))), 1, 5, 0), 1, api.OK},
		// boxes that perhaps pass
		{withSheet(of(sure, in(sure, bad...)), flapped(to(5, 6))), 0, api.OK}, {withSheet(of(in(sure, bad...), sure), flapped(to(5, 6))), 1, api.OK}, {withSheet(of(in(sure, bad...), sure), flapped(one(7))), 0, api.ErrNone},
		{of(first(), worker(1, one(1), one(1), good...)), 0, api.ErrHomeFalse},
	} {
		if n, e := home.Ask(x.b); n != x.want || e != x.e {
			t.Errorf("Ask %d: %d, %d", i, n, e)
		}
	}
}
