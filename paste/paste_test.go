package paste_test

import (
	"math"
	"slices"
	"testing"

	"lucifer/api"
	"lucifer/paste"
)

func to(low, high int) api.Span { return api.Span{Low: low, High: high} }

func one(n int) api.Span { return to(n, n) }

func salt(power int, amount api.Span) api.PasteSalt {
	return api.PasteSalt{Power: power, Amount: amount}
}

func pair(one, other, more int) api.PastePair {
	return api.PastePair{One: one, Other: other, More: more}
}

func surface(rub, damp api.Span) api.PasteSurface { return api.PasteSurface{Rub: rub, Damp: damp} }

func lit(surface int) api.PasteTrial { return api.PasteTrial{Surface: surface, Lit: true} }

func not(surface int) api.PasteTrial { return api.PasteTrial{Surface: surface} }

// example is the book of the chapter's examples, with some trials.
func example(trials ...api.PasteTrial) api.PasteBook {
	return api.PasteBook{
		Salts:    []api.PasteSalt{salt(3, to(2, 4)), salt(5, to(1, 2)), salt(2, to(0, 1))},
		Pairs:    []api.PastePair{pair(0, 1, 10), pair(1, 2, 20)},
		Surfaces: []api.PasteSurface{surface(to(70, 80), to(5, 10)), surface(to(20, 30), to(0, 5)), surface(to(45, 50), to(10, 12))},
		Need:     75,
		Trials:   trials,
	}
}

// plain is the example without the salt 2.
func plain(trials ...api.PasteTrial) api.PasteBook {
	b := example(trials...)
	b.Salts[2].Amount = one(0)
	return b
}

// simple is a paste of one salt of power 1.
func simple(parts api.Span, need int, surfaces ...api.PasteSurface) api.PasteBook {
	return api.PasteBook{Salts: []api.PasteSalt{salt(1, parts)}, Surfaces: surfaces, Need: need}
}

func withTrials(b api.PasteBook, trials ...api.PasteTrial) api.PasteBook {
	b.Trials = trials
	return b
}

func withPairs(b api.PasteBook, pairs ...api.PastePair) api.PasteBook {
	b.Pairs = pairs
	return b
}

func withSalts(b api.PasteBook, salts ...api.PasteSalt) api.PasteBook {
	b.Salts = salts
	return b
}

func withSurfaces(b api.PasteBook, surfaces ...api.PasteSurface) api.PasteBook {
	b.Surfaces = surfaces
	return b
}

func withNeed(b api.PasteBook, need int) api.PasteBook {
	b.Need = need
	return b
}

func wrongBooks() map[string]api.PasteBook {
	b, s := example(), surface(one(1), one(1))
	return map[string]api.PasteBook{
		"nothing":               {},
		"no salts":              withPairs(withSalts(b)),
		"5 salts":               withSalts(b, make([]api.PasteSalt, 5)...),
		"power 10":              withSalts(b, salt(10, one(1)), salt(1, one(1)), salt(1, one(1))),
		"power below 0":         withSalts(b, salt(1, one(1)), salt(1, one(1)), salt(-1, one(1))),
		"power huge":            withPairs(withSalts(b, salt(math.MaxInt, one(1)))),
		"amount reversed":       withPairs(withSalts(b, salt(1, to(2, 1)))),
		"amount below 0":        withPairs(withSalts(b, salt(1, to(-1, 1)))),
		"amount 10":             withPairs(withSalts(b, salt(1, to(9, 10)))),
		"amount 4 wide":         withPairs(withSalts(b, salt(1, to(2, 6)))),
		"amount hugely wide":    withPairs(withSalts(b, salt(1, to(math.MinInt, math.MaxInt)))),
		"amount hugely back":    withPairs(withSalts(b, salt(1, to(math.MaxInt, math.MinInt)))),
		"5 pairs":               withPairs(withSalts(b, make([]api.PasteSalt, 4)...), pair(0, 1, 1), pair(0, 2, 1), pair(0, 3, 1), pair(1, 2, 1), pair(1, 3, 1)),
		"pair of one":           withPairs(b, pair(1, 1, 1)),
		"pair reversed":         withPairs(b, pair(1, 0, 1)),
		"pair below 0":          withPairs(b, pair(-1, 0, 1)),
		"pair of 3":             withPairs(b, pair(0, 3, 1)),
		"pair huge":             withPairs(b, pair(math.MinInt, math.MaxInt, 1)),
		"pair twice":            withPairs(b, pair(0, 1, 10), pair(1, 2, 20), pair(0, 1, 9)),
		"more 0":                withPairs(b, pair(0, 1, 0)),
		"more 31":               withPairs(b, pair(0, 1, 31)),
		"more below 0":          withPairs(b, pair(0, 1, math.MinInt)),
		"no surfaces":           withSurfaces(b),
		"5 surfaces":            withSurfaces(b, s, s, s, s, s),
		"rub reversed":          withSurfaces(b, surface(to(2, 1), one(1))),
		"rub below 0":           withSurfaces(b, s, surface(to(-1, 1), one(1))),
		"rub 201":               withSurfaces(b, s, surface(to(1, 201), one(1))),
		"rub huge":              withSurfaces(b, surface(to(math.MinInt, math.MaxInt), one(1))),
		"damp reversed":         withSurfaces(b, surface(one(1), to(2, 1))),
		"damp below 0":          withSurfaces(b, s, surface(one(1), to(-1, 1))),
		"damp 201":              withSurfaces(b, s, surface(one(1), to(1, 201))),
		"need 0":                withNeed(b, 0),
		"need 401":              withNeed(b, 401),
		"need below 0":          withNeed(b, math.MinInt),
		"7 trials":              example(make([]api.PasteTrial, 7)...),
		"trial below 0":         example(lit(-1)),
		"trial on 3":            example(lit(0), not(3)),
		"trial huge":            example(not(math.MaxInt)),
		"only the last is so":   withPairs(b, pair(0, 1, 1), pair(0, 2, 1), pair(1, 2, 31)),
		"a pair without a salt": withSalts(b, b.Salts[:2]...),
	}
}

func rightBooks() map[string]api.PasteBook {
	b, s := example(), surface(to(0, 200), to(0, 200))
	return map[string]api.PasteBook{
		"the example":   b,
		"the least":     {Salts: make([]api.PasteSalt, 1), Surfaces: make([]api.PasteSurface, 1), Need: 1},
		"empty lists":   {Salts: make([]api.PasteSalt, 1), Surfaces: make([]api.PasteSurface, 1), Need: 1, Pairs: []api.PastePair{}, Trials: []api.PasteTrial{}},
		"need 400":      withNeed(b, 400),
		"as many":       withPairs(withSurfaces(withSalts(b, salt(9, to(6, 9)), salt(0, to(0, 3)), salt(9, one(9)), salt(9, one(0))), s, s, s, s), pair(0, 1, 1), pair(0, 2, 30), pair(0, 3, 2), pair(2, 3, 3)),
		"6 trials":      example(lit(0), not(1), lit(2), not(0), lit(1), not(2)),
		"the same pair": withPairs(b, pair(0, 1, 3), pair(0, 2, 3), pair(1, 2, 3)), // each of them has another salt
	}
}

type outcome struct {
	e    api.Errno
	zero bool // all other results are zero
}

// allErrors calls each function, with the book and what else it takes.
func allErrors(b api.PasteBook, surface, salt int) map[string]outcome {
	got := map[string]outcome{"Check": {paste.Check(b), true}}
	is, e := paste.Right(b)
	got["Right"] = outcome{e, !is}
	s, e := paste.Power(b)
	got["Power"] = outcome{e, s == api.Span{}}
	n, e := paste.Lights(b, surface)
	got["Lights"] = outcome{e, n == 0}
	is, e = paste.Safe(b)
	got["Safe"] = outcome{e, !is}
	list, e := paste.Blame(b, surface)
	got["Blame"] = outcome{e, len(list) == 0}
	n, e = paste.Less(b, salt)
	got["Less"] = outcome{e, n == 0}
	s, e = paste.Damper(b)
	got["Damper"] = outcome{e, s == api.Span{}}
	list, e = paste.Wrong(b)
	got["Wrong"] = outcome{e, len(list) == 0}
	n, e = paste.Next(b)
	got["Next"] = outcome{e, n == 0}
	return got
}

// TestCheck is of P2.1 and, of the order of errors, P1.
func TestCheck(t *testing.T) {
	for name, b := range rightBooks() {
		if e := paste.Check(b); e != api.OK {
			t.Errorf("%s: %d", name, e)
		}
	}
	for name, b := range wrongBooks() {
		for call, got := range allErrors(b, -1, -1) {
			if got.e != api.ErrPaste || !got.zero {
				t.Errorf("%s of %s: %v", call, name, got)
			}
		}
	}
}

// TestLights is of P2.1 to P2.3.
func TestLights(t *testing.T) {
	for i, x := range []struct {
		b     api.PasteBook
		power api.Span
		kinds []int
		safe  bool
	}{
		{example(), to(21, 54), []int{2, 1, 1}, false},
		{plain(), to(21, 32), []int{2, 0, 0}, true},
		{example(lit(1)), to(46, 54), []int{2, 1, 2}, false},
		{example(not(2)), to(21, 32), []int{2, 0, 0}, true}, // so the salt 2 is not there
		{example(lit(2)), to(43, 54), []int{2, 1, 2}, false},
		{example(lit(0), not(1)), to(21, 54), []int{2, 1, 1}, false},
		{example(lit(1), not(1)), to(46, 54), []int{2, 1, 2}, false}, // each time with another damp
		// what is needed, and one less
		{simple(one(5), 10, surface(one(6), one(1))), one(5), []int{2}, true},
		{simple(one(5), 10, surface(one(6), one(2))), one(5), []int{0}, false},
		{simple(to(4, 5), 10, surface(one(6), one(1))), to(4, 5), []int{1}, false},
		{simple(one(5), 10, surface(to(5, 6), one(1))), one(5), []int{1}, false},
		{simple(one(5), 10, surface(one(6), to(1, 2))), one(5), []int{1}, false},
		{simple(one(5), 10, surface(one(6), one(1)), surface(one(6), one(1))), one(5), []int{2, 2}, false},
		{simple(one(5), 10, surface(one(6), one(1)), surface(one(5), to(0, 1))), one(5), []int{2, 1}, false},
		{simple(one(5), 10, surface(one(6), one(1)), surface(one(4), one(0))), one(5), []int{2, 0}, true},
		// a trial tells of the rub as well, and of no other surface's
		{withTrials(simple(one(5), 10, surface(to(5, 7), one(1))), lit(0)), one(5), []int{2}, true},
		{withTrials(simple(one(5), 10, surface(to(5, 7), one(1))), not(0)), one(5), []int{0}, false},
		{withTrials(simple(one(5), 10, surface(to(5, 7), one(1)), surface(to(5, 7), one(1))), not(1)), one(5), []int{1, 0}, false},
		{withTrials(simple(to(3, 5), 10, surface(to(5, 7), one(1))), lit(0)), to(4, 5), []int{2}, true},
		{withTrials(simple(to(3, 5), 10, surface(one(6), to(0, 1))), lit(0), not(0)), one(4), []int{1}, false},
		{withTrials(simple(to(3, 5), 10, surface(one(6), to(0, 1))), lit(0)), to(4, 5), []int{1}, false}, // with the damp of the trial
		// a pair counts once, whatever the parts, and not if one of its salts is not there
		{withPairs(withSalts(example(), salt(1, one(3)), salt(2, one(2)), salt(0, one(1))), pair(0, 1, 30), pair(1, 2, 4)), one(41), []int{2, 0, 1}, false},
		{withPairs(withSalts(example(), salt(1, one(0)), salt(2, one(2)), salt(0, one(1))), pair(0, 1, 30), pair(1, 2, 4)), one(8), []int{1, 0, 0}, false},
		{withPairs(withSalts(example(), salt(1, one(2)), salt(2, one(0)), salt(0, one(1))), pair(0, 1, 30), pair(0, 2, 4)), one(6), []int{1, 0, 0}, false},
		// the most power, rub and damp
		{rightBooks()["as many"], to(165, 193), []int{1, 1, 1, 1}, false},
		{withNeed(rightBooks()["as many"], 400), to(165, 193), []int{0, 0, 0, 0}, false},
		{api.PasteBook{Salts: slices.Repeat([]api.PasteSalt{salt(9, one(9))}, 4), Pairs: []api.PastePair{pair(0, 1, 30), pair(0, 2, 30), pair(0, 3, 30), pair(1, 2, 30)}, Surfaces: []api.PasteSurface{surface(one(200), one(200))}, Need: 400, Trials: []api.PasteTrial{lit(0)}}, one(444), []int{2}, true},
		{rightBooks()["the least"], one(0), []int{0}, false},
	} {
		if is, e := paste.Right(x.b); !is || e != api.OK {
			t.Errorf("Right %d: %v, %d", i, is, e)
		}
		if s, e := paste.Power(x.b); s != x.power || e != api.OK {
			t.Errorf("Power %d: %v, %d", i, s, e)
		}
		for s, want := range x.kinds {
			if n, e := paste.Lights(x.b, s); n != want || e != api.OK {
				t.Errorf("Lights %d on %d: %d, %d", i, s, n, e)
			}
		}
		if is, e := paste.Safe(x.b); is != x.safe || e != api.OK {
			t.Errorf("Safe %d: %v, %d", i, is, e)
		}
	}
}

// TestFalse is of the errors of P2.2, P2.3 and P2.8, and of Right of P2.1.
func TestFalse(t *testing.T) {
	for i, b := range []api.PasteBook{
		example(lit(1), not(2)), example(not(2), lit(1)), example(not(0)), plain(lit(1)), plain(lit(2)),
		withTrials(simple(one(5), 10, surface(to(5, 7), one(1))), lit(0), not(0)), // a rub stays as it is
		withTrials(simple(to(3, 5), 10, surface(one(6), one(1)), surface(one(6), one(1))), lit(0), not(1)),
	} {
		if is, e := paste.Right(b); is || e != api.OK {
			t.Errorf("Right %d: %v, %d", i, is, e)
		}
		got := allErrors(b, 0, 0)
		for _, call := range []string{"Power", "Lights", "Safe", "Next"} {
			if got[call] != (outcome{api.ErrPasteFalse, true}) {
				t.Errorf("%s %d: %v", call, i, got[call])
			}
		}
		for _, call := range []string{"Check", "Less", "Blame", "Damper", "Wrong"} {
			if e := got[call].e; e != api.OK && e != api.ErrNone {
				t.Errorf("%s %d: %v", call, i, e)
			}
		}
	}
}

// TestAsk is of the errors of P2.3 to P2.5, which come before what cannot be true.
func TestAsk(t *testing.T) {
	for _, b := range []api.PasteBook{example(), example(not(0)), plain()} {
		for _, n := range []int{math.MinInt, -1, 3, 4, math.MaxInt} {
			got := allErrors(b, n, n)
			for _, call := range []string{"Lights", "Blame", "Less"} {
				if got[call] != (outcome{api.ErrPasteAsk, true}) {
					t.Errorf("%s of %d: %v", call, n, got[call])
				}
			}
		}
	}
	two := withSurfaces(example(), example().Surfaces[:2]...)
	if _, e := paste.Less(two, 2); e == api.ErrPasteAsk {
		t.Errorf("there is a salt 2")
	}
	if got := allErrors(two, 2, 3); got["Lights"].e != api.ErrPasteAsk || got["Blame"].e != api.ErrPasteAsk || got["Less"].e != api.ErrPasteAsk {
		t.Errorf("there is no surface 2, and no salt 3: %v", got)
	}
}

// TestBlame is of P2.4.
func TestBlame(t *testing.T) {
	many := withPairs(withSalts(example(), salt(1, one(1)), salt(1, one(1)), salt(1, one(1)), salt(1, one(1))), pair(0, 1, 5), pair(2, 3, 9), pair(0, 2, 5), pair(1, 3, 8))
	for i, x := range []struct {
		b       api.PasteBook
		surface int
		want    []int
		e       api.Errno
	}{
		{example(), 1, []int{0, 1}, api.OK}, {example(), 2, []int{1}, api.OK}, {plain(), 1, nil, api.ErrNone},
		{example(), 0, nil, api.OK}, {plain(), 0, nil, api.OK}, // no pair alone
		{example(lit(1), not(2)), 2, []int{1}, api.OK}, {plain(lit(2)), 2, nil, api.ErrNone}, {example(not(2)), 2, []int{1}, api.OK}, // before all trials
		{withSurfaces(many, surface(one(44), one(0))), 0, []int{0, 1, 2, 3}, api.OK}, // 75
		{withSurfaces(many, surface(one(45), one(0))), 0, []int{0, 1, 2, 3}, api.OK},
		{withSurfaces(many, surface(one(49), one(0))), 0, []int{1, 3}, api.OK},
		{withSurfaces(many, surface(one(52), one(0))), 0, []int{1}, api.OK},
		{withSurfaces(many, surface(one(53), one(0))), 0, nil, api.OK},
		{withSurfaces(many, surface(one(43), one(0))), 0, nil, api.ErrNone},
		{withSurfaces(withPairs(many), surface(one(80), one(0))), 0, nil, api.OK},
	} {
		if l, e := paste.Blame(x.b, x.surface); !slices.Equal(l, x.want) || e != x.e {
			t.Errorf("Blame %d: %v, %d", i, l, e)
		}
	}
}

// TestLess is of P2.5.
func TestLess(t *testing.T) {
	box, near := surface(one(9), one(0)), surface(one(6), one(0))
	for i, x := range []struct {
		b    api.PasteBook
		salt int
		want int
		e    api.Errno
	}{
		{example(), 2, 1, api.OK}, {example(), 0, 0, api.ErrNone}, {plain(), 0, 0, api.OK},
		{example(), 1, 0, api.ErrNone}, {plain(), 2, 0, api.OK}, {example(lit(1), not(2)), 2, 1, api.OK}, {plain(lit(1)), 1, 0, api.OK}, // before all trials
		{simple(to(2, 5), 10, box, near), 0, 2, api.OK}, {simple(to(2, 5), 9, box, near), 0, 3, api.OK}, {simple(to(3, 5), 9, box, near), 0, 0, api.ErrNone},
		{simple(to(2, 5), 11, box, near), 0, 1, api.OK}, {simple(to(2, 5), 12, box, near), 0, 0, api.OK}, {simple(to(4, 5), 10, box, near), 0, 0, api.ErrNone},
		{simple(to(2, 5), 10, box), 0, 0, api.OK}, // there is only the box
		{simple(to(2, 5), 10, box, surface(one(1), one(0)), near), 0, 2, api.OK}, {simple(to(2, 5), 10, surface(one(0), one(9)), near), 0, 2, api.OK},
		{simple(to(2, 5), 10, box, near, surface(one(7), one(0))), 0, 3, api.OK}, {simple(to(2, 5), 10, box, near, surface(one(8), one(0))), 0, 0, api.ErrNone},
	} {
		if n, e := paste.Less(x.b, x.salt); n != x.want || e != x.e {
			t.Errorf("Less %d: %d, %d", i, n, e)
		}
	}
}

// TestDamper is of P2.6.
func TestDamper(t *testing.T) {
	for i, x := range []struct {
		b    api.PasteBook
		want api.Span
		e    api.Errno
	}{
		{example(), api.Span{}, api.ErrNone}, {plain(), to(0, 6), api.OK},
		{plain(lit(2)), to(0, 6), api.OK}, {example(not(2)), api.Span{}, api.ErrNone}, // before all trials
		{simple(one(5), 10, surface(one(50), one(0)), surface(one(6), one(0))), to(2, 45), api.OK},
		{simple(one(5), 10, surface(one(50), one(0)), surface(one(6), one(150))), to(0, 45), api.OK},
		{simple(one(9), 1, surface(one(200), one(0))), to(0, 200), api.OK},    // 208 would do
		{simple(one(9), 9, surface(one(200), one(0))), to(0, 200), api.OK},    // 200
		{simple(one(8), 9, surface(one(200), one(0))), to(0, 199), api.OK},    // 199
		{simple(one(9), 9, surface(one(200), one(1))), to(0, 199), api.OK},    // to 200
		{simple(one(9), 10, surface(one(200), to(0, 9))), to(0, 190), api.OK}, // the greatest damp counts
		{simple(one(9), 9, surface(one(200), one(0)), surface(one(199), one(0))), one(200), api.OK},
		{simple(one(9), 9, surface(one(200), one(0)), surface(one(200), one(1))), one(200), api.OK},
		{simple(one(9), 9, surface(one(200), one(0)), surface(one(200), one(0))), api.Span{}, api.ErrNone}, // only 201 would do
		{simple(to(8, 9), 9, surface(one(200), one(0)), surface(one(198), to(0, 9))), one(199), api.OK},
		{simple(one(9), 9, surface(one(200), one(0)), surface(one(9), one(0)), surface(one(19), one(0))), to(20, 200), api.OK},
		{simple(one(9), 9, surface(one(200), one(0)), surface(one(19), one(0)), surface(one(9), one(0))), to(20, 200), api.OK},
		{simple(one(5), 10, surface(one(5), one(0))), one(0), api.OK}, {simple(one(5), 10, surface(one(4), one(0))), api.Span{}, api.ErrNone},
		{simple(one(9), 10, surface(one(200), one(199))), one(0), api.OK}, {simple(one(9), 5, surface(one(200), one(200))), to(0, 4), api.OK}, // the ends may be above 200
	} {
		if s, e := paste.Damper(x.b); s != x.want || e != x.e {
			t.Errorf("Damper %d: %v, %d", i, s, e)
		}
	}
}

// TestWrong is of P2.7, and of Right of P2.1.
func TestWrong(t *testing.T) {
	for i, x := range []struct {
		b    api.PasteBook
		want []int
	}{
		{example(lit(1), not(2)), []int{0}}, {example(not(2), lit(1)), []int{0}}, {example(), nil}, {example(lit(1)), nil},
		{example(not(0)), []int{0}}, {example(lit(0), not(0)), []int{1}}, {example(lit(1), lit(1), not(2)), []int{2}}, {example(not(2), lit(1), lit(1)), []int{0}},
		{example(not(0), lit(1), not(2)), []int{0, 1}}, {example(lit(1), not(0), not(2)), []int{0, 1}}, {example(lit(1), not(2), not(0)), []int{0, 2}},
		{plain(lit(1), lit(2), not(1)), []int{0, 1}}, {plain(not(1), lit(2), not(2), lit(1)), []int{1, 3}},
		{example(lit(1), not(2), lit(1), not(2)), []int{0, 2}}, {example(not(2), lit(1), lit(1), not(2)), []int{0, 3}},
		{example(not(0), not(0), not(0), not(0), not(0), not(0)), []int{0, 1, 2, 3, 4, 5}}, {example(lit(0), not(0), not(0), not(0), not(0), not(0)), []int{1, 2, 3, 4, 5}},
		{example(lit(1), not(1), lit(1), not(1)), nil},
	} {
		if l, e := paste.Wrong(x.b); !slices.Equal(l, x.want) || e != api.OK {
			t.Errorf("Wrong %d: %v, %d", i, l, e)
		}
		if is, e := paste.Right(x.b); is != (len(x.want) == 0) || e != api.OK {
			t.Errorf("Right %d: %v, %d", i, is, e)
		}
	}
}

// TestNext is of P2.8.
func TestNext(t *testing.T) {
	box := surface(one(20), one(0))
	for i, x := range []struct {
		b    api.PasteBook
		want int
		e    api.Errno
	}{
		{example(), 2, api.OK}, {example(lit(2)), 0, api.OK}, // of the chapter
		{example(lit(1)), 0, api.OK}, {plain(), 0, api.OK},
		{example(lit(0), lit(0), lit(0), lit(0), lit(0), lit(0)), 2, api.OK}, // a seventh one
		{simple(one(5), 10, box), 0, api.ErrNone}, {simple(one(5), 10, surface(to(0, 9), to(0, 9))), 0, api.ErrNone}, {rightBooks()["the least"], 0, api.ErrNone},
		{withTrials(simple(to(4, 5), 10, surface(one(6), one(1))), lit(0)), 0, api.ErrNone}, {withTrials(simple(to(4, 5), 10, surface(one(6), one(1))), not(0)), 0, api.ErrNone},
		{simple(to(2, 5), 10, box, surface(one(6), one(0)), surface(one(7), one(0))), 1, api.OK}, // 2 and 3, or 4 and 5
		{simple(to(2, 5), 10, box, surface(one(7), one(0)), surface(one(6), one(0))), 2, api.OK},
		{simple(to(2, 5), 10, surface(one(7), one(0)), surface(one(6), one(0))), 1, api.OK},
		{simple(to(2, 5), 10, surface(one(6), one(0)), surface(one(6), one(0))), 0, api.OK},      // of equal ones the first
		{simple(to(2, 5), 10, box, surface(one(5), one(0)), surface(one(7), one(0))), 1, api.OK}, // 0 or 2, and 2 or 0
		{simple(to(2, 5), 10, box, surface(one(6), to(0, 3)), surface(one(7), one(0))), 2, api.OK},
		{simple(to(2, 5), 10, box, surface(to(4, 7), one(0))), 0, api.OK}, // neither tells anything
	} {
		if n, e := paste.Next(x.b); n != x.want || e != x.e {
			t.Errorf("Next %d: %d, %d", i, n, e)
		}
	}
}
