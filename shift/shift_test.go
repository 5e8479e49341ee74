package shift_test

import (
	"math"
	"slices"
	"testing"

	"lucifer/api"
	"lucifer/shift"
)

func to(low, high int) api.Span { return api.Span{Low: low, High: high} }

func one(n int) api.Span { return to(n, n) }

func row(power, hours int) api.ShiftRow { return api.ShiftRow{Power: power, Hours: hours} }

func worker(free int, young bool) api.ShiftWorker { return api.ShiftWorker{Young: young, Free: free} }

// turns is a list of them, each a worker, a paste and hours.
func turns(numbers ...int) []api.ShiftTurn {
	var list []api.ShiftTurn
	for n := range slices.Chunk(numbers, 3) {
		list = append(list, api.ShiftTurn{Worker: n[0], Paste: n[1], Hours: n[2]})
	}
	return list
}

func lit(surface int) api.PasteTrial { return api.PasteTrial{Surface: surface, Lit: true} }

func not(surface int) api.PasteTrial { return api.PasteTrial{Surface: surface} }

// strong is the book of the chapter on pastes, with some trials; its power is 21 to 54.
func strong(trials ...api.PasteTrial) api.PasteBook {
	return api.PasteBook{
		Salts:    []api.PasteSalt{{Power: 3, Amount: to(2, 4)}, {Power: 5, Amount: to(1, 2)}, {Power: 2, Amount: to(0, 1)}},
		Pairs:    []api.PastePair{{One: 0, Other: 1, More: 10}, {One: 1, Other: 2, More: 20}},
		Surfaces: []api.PasteSurface{{Rub: to(70, 80), Damp: to(5, 10)}, {Rub: to(20, 30), Damp: to(0, 5)}, {Rub: to(45, 50), Damp: to(10, 12)}},
		Need:     75,
		Trials:   trials,
	}
}

// plain is the plain book of that chapter, with some trials; its power is 21 to 32.
func plain(trials ...api.PasteTrial) api.PasteBook {
	b := strong(trials...)
	b.Salts[2].Amount = one(0)
	return b
}

// powered is a paste of one salt, each part of which has so much power.
func powered(power int, amount api.Span) api.PasteBook {
	return api.PasteBook{Salts: []api.PasteSalt{{Power: power, Amount: amount}}, Surfaces: make([]api.PasteSurface, 1), Need: 1}
}

// strongest is a paste that has the most power that any can have: 444.
func strongest() api.PasteBook {
	b := api.PasteBook{Surfaces: make([]api.PasteSurface, 1), Need: 1}
	for i := range 4 {
		b.Salts = append(b.Salts, api.PasteSalt{Power: 9, Amount: to(6, 9)})
		b.Pairs = append(b.Pairs, api.PastePair{One: i / 3, Other: 1 + i%3 + i/3, More: 30})
	}
	return b
}

// example is the book of the chapter's examples.
func example() api.ShiftBook {
	return api.ShiftBook{
		Pastes:  []api.ShiftPaste{{Book: strong(), Hours: 6}, {Book: plain(), Hours: 9}},
		Workers: []api.ShiftWorker{worker(10, false), worker(8, true), worker(3, false)},
		Table:   []api.ShiftRow{row(40, 8), row(60, 4)},
	}
}

// needing is a book in which so many hours are needed at a paste.
func needing(b api.ShiftBook, paste, hours int) api.ShiftBook {
	b.Pastes = slices.Clone(b.Pastes)
	b.Pastes[paste].Hours = hours
	return b
}

// of is a book with another paste in the place of one.
func of(b api.ShiftBook, paste int, book api.PasteBook) api.ShiftBook {
	b.Pastes = slices.Clone(b.Pastes)
	b.Pastes[paste].Book = book
	return b
}

func withPastes(b api.ShiftBook, pastes ...api.ShiftPaste) api.ShiftBook {
	b.Pastes = pastes
	return b
}

func withWorkers(b api.ShiftBook, workers ...api.ShiftWorker) api.ShiftBook {
	b.Workers = workers
	return b
}

func withTable(b api.ShiftBook, rows ...api.ShiftRow) api.ShiftBook {
	b.Table = rows
	return b
}

// hired is a book with so many workers more.
func hired(b api.ShiftBook, more int) api.ShiftBook {
	return withWorkers(b, slices.Concat(b.Workers, slices.Repeat([]api.ShiftWorker{worker(12, false)}, more))...)
}

// room is a book whose pastes need so many hours; at each one can work for so many.
func room(hours int, needs ...int) api.ShiftBook {
	b := api.ShiftBook{Table: []api.ShiftRow{row(0, hours)}}
	for _, need := range needs {
		b.Pastes = append(b.Pastes, api.ShiftPaste{Book: powered(0, one(1)), Hours: need})
	}
	return b
}

// free adds workers to a book who are free for so many hours, and not young.
func free(b api.ShiftBook, hours ...int) api.ShiftBook {
	for _, n := range hours {
		b.Workers = append(slices.Clone(b.Workers), worker(n, false))
	}
	return b
}

func wrongBooks() map[string]api.ShiftBook {
	b := example()
	w := func(free int) api.ShiftBook { return withWorkers(b, b.Workers[0], b.Workers[1], worker(free, true)) }
	t := func(rows ...api.ShiftRow) api.ShiftBook { return withTable(b, rows...) }
	bad := strong()
	bad.Need = 401
	return map[string]api.ShiftBook{
		"nothing":                   {},
		"no pastes":                 withPastes(b),
		"4 pastes":                  withPastes(b, slices.Repeat(b.Pastes, 2)...),
		"100000 pastes":             withPastes(b, slices.Repeat(b.Pastes, 50000)...),
		"a need of -1":              needing(b, 0, -1),
		"a need of 41":              needing(b, 1, 41),
		"a huge need":               needing(b, 0, math.MaxInt),
		"a hugely negative need":    needing(b, 1, math.MinInt),
		"a paste that is wrong":     of(b, 0, bad),
		"a paste that is nothing":   of(b, 1, api.PasteBook{}),
		"a paste that is false":     of(b, 0, strong(lit(1), not(2))),
		"a paste that never lights": of(b, 1, plain(lit(1))),
		"5 workers":                 withWorkers(b, make([]api.ShiftWorker, 5)...),
		"100000 workers":            withWorkers(b, make([]api.ShiftWorker, 100000)...),
		"free for -1":               w(-1),
		"free for 13":               w(13),
		"hugely free":               w(math.MaxInt),
		"hugely not free":           w(math.MinInt),
		"free for 13 first":         withWorkers(b, worker(13, false), b.Workers[1]),
		"no rows":                   t(),
		"5 rows":                    t(row(1, 9), row(2, 9), row(3, 9), row(4, 9), row(5, 9)),
		"100000 rows":               t(make([]api.ShiftRow, 100000)...),
		"the same power twice":      t(row(40, 8), row(40, 4)),
		"less power":                t(row(40, 8), row(39, 4)),
		"less power last":           t(row(40, 8), row(60, 4), row(59, 4)),
		"more hours":                t(row(40, 8), row(60, 9)),
		"more hours last":           t(row(40, 8), row(60, 4), row(80, 5)),
		"a power of -1":             t(row(-1, 8)),
		"a power of 501":            t(row(501, 8)),
		"a power of 501 last":       t(row(40, 8), row(501, 8)),
		"a huge power":              t(row(40, 8), row(math.MaxInt, 8)),
		"a hugely negative power":   t(row(math.MinInt, 8), row(40, 8)),
		"hours of 13":               t(row(40, 13)),
		"hours of -1":               t(row(40, -1)),
		"hours of -1 last":          t(row(40, 8), row(60, -1)),
		"huge hours":                t(row(40, math.MaxInt)),
		"hugely negative hours":     t(row(40, 0), row(60, math.MinInt)),
		"a huge row":                t(row(math.MaxInt, math.MaxInt), row(math.MinInt, math.MinInt)),
	}
}

func rightBooks() map[string]api.ShiftBook {
	most := api.ShiftPaste{Book: strongest(), Hours: 40}
	w := worker(12, true)
	return map[string]api.ShiftBook{
		"the example": example(),
		"the least":   room(0, 0),
		"empty lists": {Pastes: []api.ShiftPaste{{Book: powered(0, one(0))}}, Workers: []api.ShiftWorker{}, Table: make([]api.ShiftRow, 1)},
		"the most":    {Pastes: []api.ShiftPaste{most, most, most}, Workers: []api.ShiftWorker{w, w, w, w}, Table: []api.ShiftRow{row(0, 12), row(1, 12), row(2, 12), row(500, 12)}},
		"rows of 0":   withTable(example(), row(0, 0), row(1, 0), row(500, 0)),
		"even rows":   withTable(example(), row(20, 7), row(40, 7), row(60, 7)),
		"trials":      of(example(), 0, strong(lit(1))),
		"one paste":   withPastes(example(), example().Pastes[1]),
	}
}

type result struct {
	e    api.Errno
	zero bool // all other results are zero
}

// allErrors calls each function, with the book and what else it takes.
func allErrors(b api.ShiftBook, worker, paste int, plan []api.ShiftTurn) map[string]result {
	got := map[string]result{"Check": {shift.Check(b), true}}
	number := func(name string, n int, e api.Errno) { got[name] = result{e, n == 0} }
	list := func(name string, l []int, e api.Errno) { got[name] = result{e, len(l) == 0} }
	is := func(name string, is bool, e api.Errno) { got[name] = result{e, !is} }
	n, e := shift.Allowed(b, worker, paste)
	number("Allowed", n, e)
	ok, e := shift.IsPlan(b, plan)
	is("IsPlan", ok, e)
	ok, e = shift.Enough(b)
	is("Enough", ok, e)
	best, e := shift.Best(b)
	got["Best"] = result{e, len(best) == 0}
	l, e := shift.Short(b)
	list("Short", l, e)
	n, e = shift.Longer(b, paste)
	number("Longer", n, e)
	l, e = shift.Spared(b)
	list("Spared", l, e)
	n, e = shift.Hire(b)
	number("Hire", n, e)
	return got
}

// TestCheck is of Check of P7.1 and, of the order of errors, P1.
func TestCheck(t *testing.T) {
	for name, b := range rightBooks() {
		for call, got := range allErrors(b, 0, 0, nil) {
			if got.e == api.ErrShift || call == "Check" && got.e != api.OK {
				t.Errorf("%s of %s: %d", call, name, got.e)
			}
		}
	}
	for name, b := range wrongBooks() {
		for _, plan := range [][]api.ShiftTurn{nil, turns(-1, -1, -1), turns(0, 0, 4, 0, 1, 6, 1, 0, 2, 1, 1, 3)} {
			for _, number := range []int{-1, 0} {
				for call, got := range allErrors(b, number, number, plan) {
					if got != (result{api.ErrShift, true}) {
						t.Errorf("%s of %s: %v", call, name, got)
					}
				}
			}
		}
	}
}

// TestAllowed is of Allowed of P7.1.
func TestAllowed(t *testing.T) {
	in := func(rows ...api.ShiftRow) api.ShiftBook { return withTable(example(), rows...) }
	young := func(hours int) api.ShiftBook { return withWorkers(room(hours, 1), worker(12, true)) }
	for i, x := range []struct {
		b             api.ShiftBook
		worker, paste int
		want          int
		e             api.Errno
	}{
		{example(), 0, 0, 4, api.OK}, {example(), 0, 1, 8, api.OK}, {example(), 1, 0, 2, api.OK}, {example(), 1, 1, 4, api.OK}, // of the chapter
		{example(), 2, 0, 4, api.OK}, {example(), 2, 1, 8, api.OK}, // for longer than the worker is free
		{withWorkers(example(), worker(0, false)), 0, 1, 8, api.OK}, {needing(example(), 1, 0), 0, 1, 8, api.OK}, {needing(example(), 1, 40), 0, 1, 8, api.OK},
		{in(row(54, 7)), 0, 0, 7, api.OK}, {in(row(54, 7)), 1, 0, 3, api.OK}, {in(row(53, 7)), 0, 0, 0, api.OK}, {in(row(53, 7)), 0, 1, 7, api.OK}, {in(row(53, 7)), 1, 0, 0, api.OK},
		{in(row(31, 9), row(32, 5), row(99, 5)), 0, 1, 5, api.OK}, {in(row(31, 9), row(32, 5), row(99, 4)), 0, 0, 4, api.OK}, {in(row(32, 9), row(33, 5)), 0, 1, 9, api.OK},
		{in(row(31, 9), row(32, 8), row(53, 7), row(54, 6)), 0, 0, 6, api.OK}, {in(row(31, 9), row(32, 8), row(53, 7), row(54, 6)), 0, 1, 8, api.OK}, {in(row(10, 9), row(20, 8)), 0, 1, 0, api.OK},
		{young(0), 0, 0, 0, api.OK}, {young(1), 0, 0, 0, api.OK}, {young(2), 0, 0, 1, api.OK}, {young(5), 0, 0, 2, api.OK}, {young(12), 0, 0, 6, api.OK}, {young(11), 0, 0, 5, api.OK},
		{withTable(of(example(), 0, strongest()), row(443, 9), row(444, 3)), 0, 0, 3, api.OK}, {withTable(of(example(), 0, strongest()), row(443, 9)), 0, 0, 0, api.OK},
		{of(in(row(53, 7)), 0, strong(not(1))), 0, 0, 0, api.OK}, {of(in(row(50, 7)), 0, strong(not(2))), 0, 0, 7, api.OK}, // of trials
		{of(in(row(46, 7)), 0, strong(lit(1))), 0, 0, 0, api.OK}, {of(in(row(54, 7)), 0, strong(lit(1))), 0, 0, 7, api.OK},
		{example(), 3, 0, 0, api.ErrShiftAsk}, {example(), -1, 0, 0, api.ErrShiftAsk}, {example(), 0, 2, 0, api.ErrShiftAsk}, {example(), 0, -1, 0, api.ErrShiftAsk}, {example(), 3, 2, 0, api.ErrShiftAsk},
		{example(), math.MaxInt, 0, 0, api.ErrShiftAsk}, {example(), math.MinInt, 0, 0, api.ErrShiftAsk}, {example(), 0, math.MaxInt, 0, api.ErrShiftAsk}, {example(), 0, math.MinInt, 0, api.ErrShiftAsk},
		{withWorkers(example()), 0, 0, 0, api.ErrShiftAsk},
	} {
		if n, e := shift.Allowed(x.b, x.worker, x.paste); n != x.want || e != x.e {
			t.Errorf("Allowed %d: %d, %d", i, n, e)
		}
	}
}

// TestIsPlan is of IsPlan of P7.2.
func TestIsPlan(t *testing.T) {
	none := needing(needing(example(), 0, 0), 1, 0)
	full := free(room(12, 24, 24), 12, 12, 12, 12)
	for i, x := range []struct {
		b    api.ShiftBook
		plan []api.ShiftTurn
		want bool
	}{
		{example(), turns(0, 0, 4, 0, 1, 6, 1, 0, 2, 1, 1, 3), true}, {example(), turns(0, 0, 6, 0, 1, 4, 1, 1, 4, 2, 1, 1), false}, // of the chapter
		{example(), turns(0, 0, 2, 0, 1, 8, 1, 0, 2, 1, 1, 1, 2, 0, 2), true}, {example(), turns(0, 0, 3, 0, 1, 6, 1, 0, 2, 1, 1, 2, 2, 0, 1, 2, 1, 1), true},
		{example(), turns(0, 0, 4, 0, 1, 7, 1, 0, 2, 1, 1, 2), false}, // the worker 0 is not so free
		{example(), turns(0, 0, 3, 0, 1, 6, 1, 0, 3, 1, 1, 3), false}, // too long for the young
		{example(), turns(0, 0, 4, 0, 1, 6, 1, 0, 2), false}, {example(), turns(0, 0, 4, 0, 1, 6, 1, 0, 2, 1, 1, 4), false}, {example(), turns(0, 0, 4, 0, 1, 6, 1, 0, 1, 1, 1, 3), false},
		{example(), turns(0, 1, 6, 0, 0, 4, 1, 0, 2, 1, 1, 3), false}, {example(), turns(1, 0, 2, 1, 1, 3, 0, 0, 4, 0, 1, 6), false}, {example(), turns(0, 0, 4, 1, 0, 2, 0, 1, 6, 1, 1, 3), false},
		{example(), turns(0, 0, 4, 0, 1, 6, 1, 0, 2, 1, 1, 3, 2, 0, 0), false}, {example(), turns(0, 0, 4, 0, 1, 6, 1, 0, 2, 1, 1, 4, 2, 1, -1), false},
		{example(), turns(0, 0, 4, 0, 1, 3, 0, 1, 3, 1, 0, 2, 1, 1, 3), false}, {example(), turns(0, 0, 2, 0, 0, 2, 0, 1, 6, 1, 0, 2, 1, 1, 3), false},
		{example(), turns(0, 0, 4, 0, 1, 6, 1, 0, 2, 3, 1, 3), false}, {example(), turns(0, 0, 4, 0, 1, 6, 1, 0, 2, 1, 2, 3), false}, {example(), turns(-1, 0, 2, 0, 0, 4, 0, 1, 6, 1, 1, 3), false}, {example(), turns(0, -1, 3, 0, 0, 4, 0, 1, 6, 1, 0, 2), false},
		{example(), turns(0, 0, 4, 0, 1, 6, 1, 0, 2, math.MaxInt, 1, 3), false}, {example(), turns(math.MinInt, 0, 4), false}, {example(), turns(0, math.MaxInt, 4), false}, {example(), turns(0, math.MinInt, 4), false},
		{example(), turns(0, 0, math.MaxInt, 0, 1, 6, 1, 0, 2, 1, 1, 3), false}, {example(), turns(0, 0, math.MinInt), false}, {example(), turns(0, 0, math.MaxInt, 1, 0, math.MaxInt, 2, 0, 8), false},
		{example(), nil, false}, {none, nil, true}, {none, turns(0, 0, 1), false}, {none, turns(0, 0, 0), false}, {withWorkers(none), nil, true}, {withWorkers(none), turns(0, 0, 0), false},
		{full, turns(0, 0, 12, 1, 0, 12, 2, 1, 12, 3, 1, 12), true}, {full, turns(0, 0, 12, 1, 0, 12, 2, 1, 12, 3, 1, 11), false}, {full, turns(0, 0, 12, 1, 0, 12, 2, 1, 12, 3, 1, 13), false},
		{full, turns(0, 0, 6, 0, 1, 6, 1, 0, 6, 1, 1, 6, 2, 0, 6, 2, 1, 6, 3, 0, 6, 3, 1, 6), true}, {full, slices.Repeat(turns(0, 0, 1), 100000), false},
		{full, turns(0, 0, 12, 1, 0, 12, 2, 1, 12, 4, 1, 12), false}, // nobody is hired
	} {
		if is, e := shift.IsPlan(x.b, x.plan); is != x.want || e != api.OK {
			t.Errorf("IsPlan %d: %v, %d", i, is, e)
		}
	}
}

// TestEnough is of Enough of P7.2.
func TestEnough(t *testing.T) {
	for i, x := range []struct {
		b    api.ShiftBook
		want bool
	}{
		{example(), true}, {needing(example(), 0, 10), false}, // of the chapter
		{needing(example(), 0, 9), true}, {needing(example(), 1, 13), true}, {needing(example(), 1, 14), false}, {withWorkers(example()), false}, {rightBooks()["the most"], false},
		{room(0, 0), true}, {room(0, 1), false}, {free(room(0, 1), 12), false}, {free(room(12, 1), 0, 0), false}, {free(room(12, 0), 0, 0), true}, {free(room(1, 1), 1), true}, {free(room(1, 2), 1), false},
		{free(room(12, 16, 16, 16), 12, 12, 12, 12), true}, {free(room(12, 16, 16, 17), 12, 12, 12, 12), false}, {free(room(12, 40), 12, 12, 12, 12), true}, {free(room(9, 40), 12, 12, 12, 12), false},
		{free(room(4, 8, 4), 6, 6), true}, {free(room(4, 8, 5), 6, 6), false}, {free(room(4, 4, 4, 4), 12), true}, {free(room(4, 4, 4, 5), 12), false}, {free(room(4, 4, 4, 4), 11), false},
		{withWorkers(room(4, 2, 2), worker(4, true)), true}, {withWorkers(room(4, 3, 1), worker(4, true)), false}, {withWorkers(room(4, 3, 1), worker(4, false)), true},
	} {
		if is, e := shift.Enough(x.b); is != x.want || e != api.OK {
			t.Errorf("Enough %d: %v, %d", i, is, e)
		}
	}
}

// TestBest is of P7.3.
func TestBest(t *testing.T) {
	for i, x := range []struct {
		b    api.ShiftBook
		want []api.ShiftTurn
		e    api.Errno
	}{
		{example(), turns(0, 0, 4, 0, 1, 6, 1, 0, 2, 1, 1, 3), api.OK}, {needing(example(), 0, 10), nil, api.ErrNone}, // of the chapter
		{withWorkers(example()), nil, api.ErrNone}, {room(12, 0, 0, 0), nil, api.OK}, {room(0, 0), nil, api.OK}, {free(room(5, 0, 0), 7), nil, api.OK},
		// the fewest turns, wherever they are
		{free(room(8, 8), 2, 8, 6), turns(1, 0, 8), api.OK}, {free(room(8, 8, 3), 3, 8, 6), turns(0, 1, 3, 1, 0, 8), api.OK}, {free(room(8, 8, 0, 1), 3, 8), turns(0, 2, 1, 1, 0, 8), api.OK},
		{free(room(6, 12), 5, 1, 6, 6), turns(2, 0, 6, 3, 0, 6), api.OK}, {free(room(8, 3, 5), 3, 5, 8), turns(0, 0, 3, 1, 1, 5), api.OK},
		// of as many the lesser worker, then the lesser paste
		{free(room(8, 8), 8, 8), turns(0, 0, 8), api.OK}, {free(room(8, 4, 4), 8, 8), turns(0, 0, 4, 0, 1, 4), api.OK}, {free(room(8, 4, 4), 4, 4), turns(0, 0, 4, 1, 1, 4), api.OK}, {free(room(8, 4, 3), 3, 4), turns(0, 1, 3, 1, 0, 4), api.OK},
		{free(room(4, 5), 4, 4, 4), turns(0, 0, 4, 1, 0, 1), api.OK}, {free(room(4, 6, 2), 4, 4), turns(0, 0, 2, 0, 1, 2, 1, 0, 4), api.OK}, // not 4, 2 and 2, with more hours at first
		// and of the same ones more hours, first at the first
		{free(room(8, 10), 8, 8), turns(0, 0, 8, 1, 0, 2), api.OK}, {free(room(8, 10), 3, 8), turns(0, 0, 3, 1, 0, 7), api.OK}, {free(room(4, 9), 4, 4, 4), turns(0, 0, 4, 1, 0, 4, 2, 0, 1), api.OK},
		{free(room(4, 4, 4, 4), 12), turns(0, 0, 4, 0, 1, 4, 0, 2, 4), api.OK}, {free(room(1, 4, 4, 4), 3, 3, 3, 3), turns(0, 0, 1, 0, 1, 1, 0, 2, 1, 1, 0, 1, 1, 1, 1, 1, 2, 1, 2, 0, 1, 2, 1, 1, 2, 2, 1, 3, 0, 1, 3, 1, 1, 3, 2, 1), api.OK},
		{withWorkers(room(4, 4, 2), worker(6, true), worker(6, false)), turns(0, 1, 2, 1, 0, 4), api.OK},
	} {
		if l, e := shift.Best(x.b); !slices.Equal(l, x.want) || e != x.e {
			t.Errorf("Best %d: %v, %d", i, l, e)
		}
	}
}

// TestShort is of P7.4.
func TestShort(t *testing.T) {
	for i, x := range []struct {
		b    api.ShiftBook
		want []int
		e    api.Errno
	}{
		{example(), nil, api.ErrNone}, {needing(example(), 0, 10), []int{0}, api.OK}, // of the chapter
		{needing(example(), 1, 16), []int{1}, api.OK}, {needing(needing(example(), 0, 8), 1, 12), []int{0, 1}, api.OK}, {needing(needing(example(), 0, 10), 1, 16), []int{0}, api.OK},
		{withWorkers(example()), []int{0}, api.OK}, {withWorkers(needing(example(), 0, 0)), []int{1}, api.OK}, {room(0, 0, 0, 0), nil, api.ErrNone}, {room(12, 0, 0, 1), []int{2}, api.OK},
		{free(room(4, 4, 4, 4), 11), []int{0, 1, 2}, api.OK}, {free(room(4, 4, 4, 4), 7), []int{0, 1}, api.OK}, {free(room(4, 3, 4, 4), 7), []int{1, 2}, api.OK}, {free(room(4, 4, 3, 4), 7), []int{0, 2}, api.OK}, {free(room(4, 3, 3, 5), 5), []int{2}, api.OK},
		{free(room(4, 3, 3, 3), 5), []int{0, 1}, api.OK}, {free(room(4, 0, 4, 4), 7), []int{1, 2}, api.OK}, {free(room(4, 4, 4, 4), 12), nil, api.ErrNone}, {free(room(4, 4, 9, 4), 4, 4), []int{1}, api.OK},
		{free(room(6, 2, 5, 5), 6, 5), []int{0, 1, 2}, api.OK}, {free(room(6, 3, 9, 3), 6, 5), []int{0, 1}, api.OK}, {free(room(6, 2, 9, 3), 6, 5), []int{1, 2}, api.OK},
	} {
		if l, e := shift.Short(x.b); !slices.Equal(l, x.want) || e != x.e {
			t.Errorf("Short %d: %v, %d", i, l, e)
		}
	}
}

// TestLonger is of P7.5.
func TestLonger(t *testing.T) {
	for i, x := range []struct {
		b     api.ShiftBook
		paste int
		want  int
		e     api.Errno
	}{
		{example(), 0, 3, api.OK}, {example(), 1, 4, api.OK}, {needing(example(), 0, 10), 0, 0, api.ErrNone}, // of the chapter
		{needing(example(), 0, 10), 1, 0, api.ErrNone}, {needing(example(), 0, 9), 0, 0, api.OK}, {needing(example(), 0, 9), 1, 1, api.OK},
		{free(room(12, 40), 12, 12, 12, 12), 0, 8, api.OK}, {free(room(12, 0, 0), 12, 12, 12, 12), 1, 48, api.OK}, {free(room(12, 40, 8), 12, 12, 12, 12), 0, 0, api.OK}, {free(room(12, 39, 8), 12, 12, 12, 12), 0, 1, api.OK},
		{room(12, 0), 0, 0, api.OK}, {room(12, 1), 0, 0, api.ErrNone}, {free(room(0, 0), 12), 0, 0, api.OK}, {free(room(4, 0, 2, 3), 8), 0, 3, api.OK}, {free(room(4, 0, 2, 3), 8), 2, 1, api.OK},
		{example(), 2, 0, api.ErrShiftAsk}, {example(), -1, 0, api.ErrShiftAsk}, {example(), math.MaxInt, 0, api.ErrShiftAsk}, {example(), math.MinInt, 0, api.ErrShiftAsk},
		{needing(example(), 0, 10), 2, 0, api.ErrShiftAsk}, {needing(example(), 0, 10), -1, 0, api.ErrShiftAsk},
	} {
		if n, e := shift.Longer(x.b, x.paste); n != x.want || e != x.e {
			t.Errorf("Longer %d: %d, %d", i, n, e)
		}
	}
}

// TestSpared is of P7.6.
func TestSpared(t *testing.T) {
	for i, x := range []struct {
		b    api.ShiftBook
		want []int
		e    api.Errno
	}{
		{example(), []int{2}, api.OK}, {needing(example(), 0, 10), nil, api.ErrNone}, // of the chapter
		{needing(needing(example(), 0, 4), 1, 6), []int{1, 2}, api.OK}, {needing(needing(example(), 0, 0), 1, 0), []int{0, 1, 2}, api.OK}, {withWorkers(example()), nil, api.ErrNone}, {room(5, 0), nil, api.OK},
		{free(room(4, 12), 4, 4, 4), nil, api.OK}, {free(room(4, 12), 4, 4, 4, 4), []int{0, 1, 2, 3}, api.OK}, {free(room(4, 12), 4, 4, 5, 3), []int{3}, api.OK}, {free(room(6, 12), 3, 4, 5, 4), []int{0, 1, 3}, api.OK}, {free(room(6, 12), 0, 6, 6), []int{0}, api.OK},
	} {
		if l, e := shift.Spared(x.b); !slices.Equal(l, x.want) || e != x.e {
			t.Errorf("Spared %d: %v, %d", i, l, e)
		}
	}
}

// TestHire is of P7.7.
func TestHire(t *testing.T) {
	young := withWorkers(room(4, 40), worker(12, true), worker(12, true), worker(12, true), worker(12, true))
	for i, x := range []struct {
		b    api.ShiftBook
		want int
		e    api.Errno
	}{
		{example(), 0, api.OK}, {needing(example(), 0, 10), 1, api.OK}, // of the chapter
		{needing(example(), 0, 40), 8, api.OK}, {withWorkers(example()), 2, api.OK}, {withTable(example(), row(53, 12)), 0, api.ErrNone}, {withTable(needing(example(), 0, 0), row(53, 12)), 0, api.OK},
		{room(0, 0), 0, api.OK}, {room(0, 1), 0, api.ErrNone}, {free(room(0, 1), 12), 0, api.ErrNone}, {room(12, 40, 40, 40), 10, api.OK}, {room(12, 40, 40, 39), 10, api.OK}, {room(12, 40, 40, 28), 9, api.OK},
		{room(2, 40), 20, api.OK}, {room(2, 39), 20, api.OK}, {room(2, 38), 19, api.OK}, {room(2, 40, 40, 40), 20, api.OK}, {room(1, 20), 20, api.OK}, {room(1, 21), 0, api.ErrNone}, {room(1, 40), 0, api.ErrNone},
		{free(room(1, 24), 1, 1, 1, 1), 20, api.OK}, {free(room(1, 25), 1, 1, 1, 1), 0, api.ErrNone}, {free(room(1, 24), 1, 1, 1, 0), 0, api.ErrNone}, {free(room(1, 24), 12, 12, 12, 12), 20, api.OK},
		{young, 8, api.OK}, {room(12, 24), 2, api.OK}, {room(12, 25), 3, api.OK}, {room(5, 5, 5, 5), 2, api.OK}, {room(5, 5, 5, 2), 1, api.OK}, {room(5, 5, 5, 3), 2, api.OK},
	} {
		if n, e := shift.Hire(x.b); n != x.want || e != x.e {
			t.Errorf("Hire %d: %d, %d", i, n, e)
		}
	}
}
