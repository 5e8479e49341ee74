package insure_test

import (
	"math"
	"slices"
	"testing"

	"lucifer/api"
	"lucifer/insure"
)

func to(low, high int) api.Span { return api.Span{Low: low, High: high} }

func one(n int) api.Span { return to(n, n) }

func at(x, y int) api.YardSpot { return api.YardSpot{X: x, Y: y} }

func lot(x, y int, room api.Span) api.YardLot { return api.YardLot{At: at(x, y), Room: room} }

func part(damp api.Span, heat ...int) api.TunnelPart {
	return api.TunnelPart{Heat: [4]int(heat), Damp: damp}
}

func frame(need api.Span, stay ...int) api.TunnelFrame {
	return api.TunnelFrame{Stay: stay, Need: need}
}

// example is the book of the chapter's examples, changed.
func example(changes ...func(b *api.InsureBook)) api.InsureBook {
	b := api.InsureBook{
		Yard: api.YardBook{
			Lots:  []api.YardLot{lot(10, 10, to(20, 25)), lot(16, 10, one(30)), lot(10, 18, to(12, 20)), lot(30, 30, to(40, 50))},
			Doors: []api.YardSpot{at(12, 12)}, Buckets: []api.YardSpot{at(14, 14)}, Spare: []api.YardSpot{at(28, 26)},
			Apart: 7, Door: 20, Bucket: 12, Error: 2,
		},
		Tunnel: api.TunnelBook{
			Parts:  []api.TunnelPart{part(one(0), 0, 1, 2, 3), part(to(0, 1), 0, 1, 2, 3)},
			Frames: []api.TunnelFrame{frame(to(10, 12), 1, 10)},
		},
		Rates: api.InsureRates{Good: 1, Near: 9, Served: 30, Heat: 2, Frame: 20},
	}
	for _, change := range changes {
		change(&b)
	}
	return b
}

// far changes the distances that are asked for, and by how much one can be wrong.
func far(apart, door, bucket, wrong int) func(b *api.InsureBook) {
	return func(b *api.InsureBook) {
		b.Yard.Apart, b.Yard.Door, b.Yard.Bucket, b.Yard.Error = apart, door, bucket, wrong
	}
}

func rates(good, near, served, heat, frame int) func(b *api.InsureBook) {
	return func(b *api.InsureBook) {
		b.Rates = api.InsureRates{Good: good, Near: near, Served: served, Heat: heat, Frame: frame}
	}
}

func buckets(spots ...api.YardSpot) func(b *api.InsureBook) {
	return func(b *api.InsureBook) { b.Yard.Buckets = spots }
}

func spares(spots ...api.YardSpot) func(b *api.InsureBook) {
	return func(b *api.InsureBook) { b.Yard.Spare = spots }
}

func frames(frames ...api.TunnelFrame) func(b *api.InsureBook) {
	return func(b *api.InsureBook) { b.Tunnel.Frames = frames }
}

func parts(parts ...api.TunnelPart) func(b *api.InsureBook) {
	return func(b *api.InsureBook) { b.Tunnel.Parts = parts }
}

// row changes the lots to ones 4 columns apart from each other, whose goods are told.
func row(goods ...api.Span) func(b *api.InsureBook) {
	return func(b *api.InsureBook) {
		b.Yard.Lots = nil
		for i, room := range goods {
			b.Yard.Lots = append(b.Yard.Lots, lot(4*i, 0, room))
		}
	}
}

// calm is that the frame is dry in time whatever is done.
func calm(b *api.InsureBook) { b.Tunnel.Frames[0].Need = to(0, 999) }

func plan(choice []int, set ...int) api.InsurePlan { return api.InsurePlan{Choice: choice, Set: set} }

func lots(n ...int) []int { return n }

// samePlan reports whether two plans are the same.
func samePlan(p, q api.InsurePlan) bool {
	return slices.Equal(p.Choice, q.Choice) && slices.Equal(p.Set, q.Set)
}

// top is a book of all that there can be the most of.
func top() api.InsureBook {
	all := example(far(200, 200, 200, 20), rates(99, 99, 99, 99, 99), row(slices.Repeat([]api.Span{to(0, 99)}, 7)...))
	y := &all.Yard
	y.Doors = []api.YardSpot{at(0, 0), at(99, 99), at(0, 99)}
	y.Buckets, y.Spare = y.Doors, y.Doors
	all.Tunnel.Parts = slices.Repeat([]api.TunnelPart{part(to(17, 20), 20, 20, 20, 20)}, 4)
	all.Tunnel.Frames = slices.Repeat([]api.TunnelFrame{frame(to(0, 999), 20, 20, 20, 20)}, 5)
	return all
}

// wrongBooks are books that are not valid: mostly the yard, the tunnel or the rates alone are wrong.
func wrongBooks() map[string]api.InsureBook {
	books := map[string]api.InsureBook{
		"nothing":      {},
		"no yard":      example(func(b *api.InsureBook) { b.Yard = api.YardBook{} }),
		"no tunnel":    example(func(b *api.InsureBook) { b.Tunnel = api.TunnelBook{} }),
		"no lots":      example(row()),
		"8 lots":       example(row(make([]api.Span, 8)...)),
		"100000 lots":  example(func(b *api.InsureBook) { b.Yard.Lots = make([]api.YardLot, 100000) }),
		"no doors":     example(func(b *api.InsureBook) { b.Yard.Doors = nil }),
		"4 buckets":    example(buckets(make([]api.YardSpot, 4)...)),
		"4 spare":      example(spares(make([]api.YardSpot, 4)...)),
		"a spot":       example(spares(at(100, 0))),
		"apart 201":    example(far(201, 20, 12, 2)),
		"door -1":      example(far(7, -1, 12, 2)),
		"bucket 201":   example(far(7, 20, 201, 2)),
		"error 21":     example(far(7, 20, 12, 21)),
		"a room":       example(row(to(2, 1))),
		"no parts":     example(parts()),
		"5 parts":      example(parts(make([]api.TunnelPart, 5)...)),
		"a heat of 21": example(parts(part(one(0), 0, 1, 2, 3), part(one(0), 0, 1, 2, 21))),
		"a wide damp":  example(parts(part(one(0), 0, 1, 2, 3), part(to(0, 4), 0, 1, 2, 3))),
		"a part more":  example(parts(slices.Repeat([]api.TunnelPart{part(one(0), 0, 1, 2, 3)}, 3)...)),
		"6 frames":     example(frames(slices.Repeat([]api.TunnelFrame{frame(one(0), 0, 0)}, 6)...)),
		"a stay less":  example(frames(frame(one(0), 0))),
		"a need":       example(frames(frame(to(0, 1000), 0, 0))),
		"all of it":    example(row(), parts(), rates(-1, 100, -1, 100, -1)),
	}
	for i, name := range []string{"good", "near", "served", "heat", "frame"} {
		for _, n := range []int{-1, 100, math.MinInt, math.MaxInt} {
			r := [5]int{1, 1, 1, 1, 1}
			r[i] = n
			books[name+" "+map[int]string{-1: "-1", 100: "100", math.MinInt: "least", math.MaxInt: "huge"}[n]] = example(rates(r[0], r[1], r[2], r[3], r[4]))
		}
	}
	return books
}

func rightBooks() map[string]api.InsureBook {
	return map[string]api.InsureBook{
		"the example":     example(),
		"no rates":        example(rates(0, 0, 0, 0, 0)),
		"the most":        top(),
		"no frames":       example(frames()),
		"no buckets":      example(buckets()),
		"nothing spare":   example(spares()),
		"one empty lot":   example(row(one(0)), far(0, 0, 0, 0)),
		"all on one spot": example(func(b *api.InsureBook) { b.Yard.Lots = slices.Repeat([]api.YardLot{lot(14, 14, one(1))}, 7) }),
		"one part":        example(parts(part(one(20), 0, 0, 0, 0)), frames(frame(one(0), 0))),
	}
}

type result struct {
	e    api.Errno
	zero bool // all other results are zero
}

// allErrors calls each function, with the book, a plan, and a number: of a lot, of goods or of parts.
func allErrors(b api.InsureBook, p api.InsurePlan, number int) map[string]result {
	got := map[string]result{"Check": {insure.Check(b), true}}
	isZero := func(p api.InsurePlan) bool { return len(p.Choice) == 0 && len(p.Set) == 0 }
	s, e := insure.Premium(b, p)
	got["Premium"] = result{e, s == api.Span{}}
	c, e := insure.Causes(b, p)
	got["Causes"] = result{e, len(c) == 0}
	n, e := insure.Fits(b, p)
	got["Fits"] = result{e, n == 0}
	q, e := insure.Cheapest(b, number)
	got["Cheapest"] = result{e, isZero(q)}
	q, e = insure.Most(b, number)
	got["Most"] = result{e, isZero(q)}
	l, m, e := insure.Burns(b, p, number)
	got["Burns"] = result{e, len(l)+len(m) == 0}
	s, e = insure.Loss(b, p, number)
	got["Loss"] = result{e, s == api.Span{}}
	n, e = insure.Worst(b, p)
	got["Worst"] = result{e, n == 0}
	n, e = insure.Bucket(b, p)
	got["Bucket"] = result{e, n == 0}
	l, e = insure.Parts(b, p, number)
	got["Parts"] = result{e, len(l) == 0}
	return got
}

// TestCheck is of Check of P10.1 and, of the order of errors, P1.
func TestCheck(t *testing.T) {
	for name, b := range rightBooks() {
		set := make([]int, len(b.Tunnel.Parts))
		for call, got := range allErrors(b, plan(lots(0), set...), 0) {
			if got.e == api.ErrInsure || call == "Check" && got.e != api.OK {
				t.Errorf("%s of %s: %d", call, name, got.e)
			}
		}
	}
	for name, b := range wrongBooks() {
		for _, p := range []api.InsurePlan{plan(lots(0), 0, 0), plan(lots(9)), {}} {
			for _, number := range []int{0, 1, -1, 10000} {
				for call, got := range allErrors(b, p, number) {
					if got != (result{api.ErrInsure, true}) {
						t.Errorf("%s of %s: %v", call, name, got)
					}
				}
			}
		}
	}
}

// TestNoPlan is of ErrInsureAsk of P10.1, P10.6, P10.7 and P10.9.
func TestNoPlan(t *testing.T) {
	all := []string{"Premium", "Causes", "Fits", "Burns", "Loss", "Worst", "Bucket", "Parts"}
	for name, p := range map[string]api.InsurePlan{
		"nothing":              {},
		"no set":               plan(lots(1)),
		"a set of one part":    plan(lots(1), 0),
		"a set of three":       plan(lots(1), 0, 1, 0),
		"a set of 100000":      plan(lots(1), make([]int, 100000)...),
		"a damper at 4":        plan(lots(1), 0, 4),
		"a damper at -1":       plan(lots(1), -1, 0),
		"a damper far away":    plan(lots(1), math.MaxInt, math.MinInt),
		"lots that decrease":   plan(lots(2, 1), 0, 1),
		"a lot twice":          plan(lots(1, 1), 0, 1),
		"the lot 4":            plan(lots(1, 4), 0, 1),
		"the lot -1":           plan(lots(-1, 1), 0, 1),
		"lots far away":        plan(lots(math.MinInt, 1, math.MaxInt), 0, 1),
		"100000 lots":          plan(make([]int, 100000), 0, 1),
		"a wrong lot and set":  plan(lots(1, 4), 0),
		"a wrong lot, no more": plan(lots(4), 0, 1),
	} {
		for _, number := range []int{1, 4, 0, -1, 13} {
			got := allErrors(example(), p, number)
			for _, call := range all {
				if want := (result{api.ErrInsureAsk, true}); got[call] != want {
					t.Errorf("%s of %s, %d: %v", call, name, number, got[call])
				}
			}
		}
	}
	for _, number := range []int{0, 3, 4, -1, 7, 100, math.MaxInt, math.MinInt} { // no lots of the choice
		got := allErrors(example(), plan(lots(1, 2), 0, 1), number)
		for _, call := range []string{"Burns", "Loss"} {
			if want := (result{api.ErrInsureAsk, true}); got[call] != want {
				t.Errorf("%s of %d: %v", call, number, got[call])
			}
		}
	}
	for _, number := range []int{0, -1, 13, math.MaxInt, math.MinInt} {
		if got := allErrors(example(), plan(lots(1, 2), 0, 1), number)["Parts"]; got != (result{api.ErrInsureAsk, true}) {
			t.Errorf("Parts of %d: %v", number, got)
		}
	}
	for _, number := range []int{-1, 10000, math.MaxInt, math.MinInt} {
		got := allErrors(example(), plan(lots(1, 2), 0, 1), number)
		for _, call := range []string{"Cheapest", "Most"} {
			if want := (result{api.ErrInsureAsk, true}); got[call] != want {
				t.Errorf("%s of %d: %v", call, number, got[call])
			}
		}
	}
}

// TestPremium is of P10.2 and P10.3.
func TestPremium(t *testing.T) {
	causes := func(goods, near, unserved, heat, wet api.Span) []api.Span {
		return []api.Span{goods, near, unserved, heat, wet}
	}
	zero, perhaps := one(0), to(0, 1)
	all := lots(0, 1, 2, 3, 4, 5, 6)
	opposite := []api.TunnelFrame{frame(to(10, 12), 1, 10), frame(to(0, 9), 0, 10)}
	alike := []api.TunnelFrame{frame(to(10, 12), 1, 10), frame(to(10, 12), 1, 10)}
	for i, x := range []struct {
		b       api.InsureBook
		p       api.InsurePlan
		premium api.Span
		causes  []api.Span
		fits    int
	}{
		// of the chapter
		{example(), plan(lots(1, 2), 0, 1), to(44, 72), causes(to(42, 50), zero, zero, one(1), perhaps), 1}, {example(), plan(lots(1, 2), 0, 2), to(46, 74), causes(to(42, 50), zero, zero, one(2), perhaps), 1}, {example(), plan(lots(0, 1, 3), 0, 1), to(122, 166), causes(to(90, 105), perhaps, one(1), one(1), perhaps), 0}, {example(), plan(lots(0, 1), 0, 1), to(52, 86), causes(to(50, 55), perhaps, zero, one(1), perhaps), 1}, {example(), plan(lots(3), 0, 1), to(72, 102), causes(to(40, 50), zero, one(1), one(1), perhaps), 0},
		// no lots
		{example(), plan(nil, 0, 0), one(20), causes(zero, zero, zero, zero, one(1)), 0}, {example(), plan(nil, 3, 3), one(32), causes(zero, zero, zero, one(6), one(1)), 0}, {example(calm), plan(nil, 0, 1), one(2), causes(zero, zero, zero, one(1), zero), 2},
		// each frame is dry in time, some are, none are
		{example(calm), plan(lots(1, 2), 0, 1), to(44, 52), causes(to(42, 50), zero, zero, one(1), zero), 2}, {example(frames()), plan(lots(1, 2), 0, 1), to(44, 52), causes(to(42, 50), zero, zero, one(1), zero), 2}, {example(frames(opposite...)), plan(lots(1), 0, 1), one(52), causes(one(30), zero, zero, one(1), one(1)), 0}, {example(frames(opposite...)), plan(lots(1), 0, 2), to(54, 74), causes(one(30), zero, zero, one(2), to(1, 2)), 0}, {example(frames(alike...)), plan(lots(1), 0, 1), to(32, 72), causes(one(30), zero, zero, one(1), to(0, 2)), 1},
		// the ends of a need
		{example(frames(frame(one(10), 1, 10)), parts(part(one(0), 0, 1, 2, 3), part(one(0), 0, 1, 2, 3))), plan(nil, 0, 1), one(2), causes(zero, zero, zero, one(1), zero), 2}, {example(frames(frame(one(9), 1, 10)), parts(part(one(0), 0, 1, 2, 3), part(one(0), 0, 1, 2, 3))), plan(nil, 0, 1), one(22), causes(zero, zero, zero, one(1), one(1)), 0}, {example(frames(frame(one(11), 1, 10)), parts(part(one(0), 0, 1, 2, 3), part(one(0), 0, 1, 2, 3))), plan(nil, 0, 1), one(22), causes(zero, zero, zero, one(1), one(1)), 0}, {example(frames(frame(one(11), 1, 10)), parts(part(one(0), 0, 1, 2, 3), part(one(0), 0, 1, 2, 3))), plan(nil, 1, 1), one(4), causes(zero, zero, zero, one(2), zero), 2},
		// surely and perhaps too near: 6 and 8 apart
		{example(far(7, 20, 12, 0), calm), plan(lots(0, 1), 0, 0), to(59, 64), causes(to(50, 55), one(1), zero, zero, zero), 0}, {example(far(6, 20, 12, 0), calm), plan(lots(0, 1), 0, 0), to(50, 55), causes(to(50, 55), zero, zero, zero, zero), 2}, {example(calm), plan(lots(0, 1, 2), 1, 0), to(64, 95), causes(to(62, 75), to(0, 2), zero, one(1), zero), 1}, {example(far(9, 20, 12, 2), calm), plan(lots(0, 1, 2), 0, 0), to(71, 93), causes(to(62, 75), to(1, 2), zero, zero, zero), 0}, {example(far(11, 20, 12, 2), calm), plan(lots(0, 1, 2), 0, 0), to(80, 93), causes(to(62, 75), one(2), zero, zero, zero), 0}, {example(far(13, 20, 20, 2), calm), plan(lots(0, 1, 2), 0, 0), to(80, 102), causes(to(62, 75), to(2, 3), zero, zero, zero), 0},
		// surely and perhaps served: the door is 4 away, the bucket 8
		{example(far(7, 6, 10, 2), calm), plan(lots(0), 0, 0), to(20, 25), causes(to(20, 25), zero, zero, zero, zero), 2}, {example(far(7, 5, 10, 2), calm), plan(lots(0), 0, 0), to(20, 55), causes(to(20, 25), zero, perhaps, zero, zero), 1}, {example(far(7, 6, 9, 2), calm), plan(lots(0), 0, 0), to(20, 55), causes(to(20, 25), zero, perhaps, zero, zero), 1}, {example(far(7, 2, 6, 2), calm), plan(lots(0), 0, 0), to(20, 55), causes(to(20, 25), zero, perhaps, zero, zero), 1}, {example(far(7, 1, 10, 2), calm), plan(lots(0), 0, 0), to(50, 55), causes(to(20, 25), zero, one(1), zero, zero), 0}, {example(far(7, 6, 5, 2), calm), plan(lots(0), 0, 0), to(50, 55), causes(to(20, 25), zero, one(1), zero, zero), 0}, {example(buckets(), calm), plan(lots(0, 1, 2), 0, 0), to(152, 183), causes(to(62, 75), to(0, 2), one(3), zero, zero), 0}, {example(far(7, 5, 10, 2), calm), plan(lots(0, 1), 0, 0), to(50, 124), causes(to(50, 55), perhaps, to(0, 2), zero, zero), 1},
		// rates
		{example(rates(0, 0, 0, 0, 0)), plan(lots(0, 1, 3), 0, 1), zero, causes(to(90, 105), perhaps, one(1), one(1), perhaps), 0}, {example(rates(2, 0, 0, 0, 0)), plan(lots(0, 1, 3), 0, 1), to(180, 210), causes(to(90, 105), perhaps, one(1), one(1), perhaps), 0}, {example(rates(0, 2, 0, 0, 0)), plan(lots(0, 1, 3), 0, 1), to(0, 2), causes(to(90, 105), perhaps, one(1), one(1), perhaps), 0}, {example(rates(0, 0, 2, 0, 0)), plan(lots(0, 1, 3), 0, 1), one(2), causes(to(90, 105), perhaps, one(1), one(1), perhaps), 0}, {example(rates(0, 0, 0, 2, 0)), plan(lots(0, 1, 3), 0, 1), one(2), causes(to(90, 105), perhaps, one(1), one(1), perhaps), 0}, {example(rates(0, 0, 0, 0, 2)), plan(lots(0, 1, 3), 0, 1), to(0, 2), causes(to(90, 105), perhaps, one(1), one(1), perhaps), 0}, {example(rates(99, 99, 99, 99, 99)), plan(lots(0, 1), 3, 3), to(5643, 6237), causes(to(50, 55), perhaps, zero, one(6), one(1)), 0},
		// the most of all
		{top(), plan(all, 0, 0, 0, 0), to(9999, 79794-7*99-5*99), causes(to(0, 693), one(21), to(0, 0), one(80), one(0)), 0},
	} {
		if s, e := insure.Premium(x.b, x.p); s != x.premium || e != api.OK {
			t.Errorf("Premium %d: %v, %d", i, s, e)
		}
		if l, e := insure.Causes(x.b, x.p); !slices.Equal(l, x.causes) || e != api.OK {
			t.Errorf("Causes %d: %v, %d", i, l, e)
		}
		if n, e := insure.Fits(x.b, x.p); n != x.fits || e != api.OK {
			t.Errorf("Fits %d: %d, %d", i, n, e)
		}
	}
}

// TestCheapest is of P10.4.
func TestCheapest(t *testing.T) {
	dry := example(func(b *api.InsureBook) { b.Tunnel.Parts[1].Damp = one(0) })
	free := example(rates(0, 0, 0, 0, 0))
	for i, x := range []struct {
		b    api.InsureBook
		want int
		p    api.InsurePlan
		e    api.Errno
	}{
		// of the chapter
		{example(), 40, plan(lots(1, 2), 0, 0), api.OK}, {example(), 0, plan(nil, 0, 0), api.OK}, {example(), 103, api.InsurePlan{}, api.ErrNone},
		// as many as are wanted, and one more
		{example(), 12, plan(lots(2), 0, 0), api.OK}, {example(), 13, plan(lots(0), 0, 0), api.OK}, {example(), 20, plan(lots(0), 0, 0), api.OK}, {example(), 21, plan(lots(1), 0, 0), api.OK}, {example(), 30, plan(lots(1), 0, 0), api.OK}, {example(), 31, plan(lots(1, 2), 0, 0), api.OK}, {example(), 42, plan(lots(1, 2), 0, 0), api.OK}, {example(), 43, plan(lots(0, 1), 0, 0), api.OK}, {example(), 51, plan(lots(0, 1, 2), 0, 0), api.OK}, {example(), 102, plan(lots(0, 1, 2, 3), 0, 0), api.OK}, {example(), 9999, api.InsurePlan{}, api.ErrNone},
		// more is asked than can be paid
		{example(rates(99, 99, 99, 99, 99)), 102, plan(lots(0, 1, 2, 3), 0, 0), api.OK}, {example(rates(99, 0, 0, 99, 99), row(one(51), one(51))), 102, plan(lots(0, 1), 0, 0), api.OK}, {example(rates(1, 1, 1, 99, 0), frames(), parts(part(one(0), 20, 20, 20, 20), part(one(0), 20, 20, 20, 20))), 12, plan(lots(2), 0, 0), api.OK}, {example(rates(1, 1, 1, 99, 99), frames(frame(to(0, 60), 3, 1)), parts(part(one(0), 20, 20, 20, 20), part(one(0), 1, 2, 2, 3))), 12, plan(lots(2), 0, 0), api.OK}, {example(rates(1, 1, 1, 18, 99), frames(frame(to(63, 64), 3, 1)), parts(part(one(0), 20, 20, 20, 20), part(one(0), 1, 2, 4, 5))), 12, plan(lots(2), 0, 2), api.OK},
		// goods that there only perhaps are do not count
		{example(row(to(0, 50), one(10))), 11, api.InsurePlan{}, api.ErrNone}, {example(row(to(0, 50), one(10))), 10, plan(lots(1), 0, 0), api.OK}, {example(row(to(0, 50), one(10)), rates(0, 0, 0, 0, 0)), 10, plan(lots(0, 1), 0, 0), api.OK},
		// heat for a frame that is dry then
		{dry, 0, plan(nil, 0, 1), api.OK}, {dry, 40, plan(lots(1, 2), 0, 1), api.OK}, {example(parts(part(one(0), 0, 0, 1, 1), part(one(0), 0, 1, 1, 2))), 0, plan(nil, 0, 1), api.OK}, {example(func(b *api.InsureBook) { b.Tunnel.Parts[1].Damp = one(0) }, rates(1, 1, 1, 20, 20)), 0, plan(nil, 0, 0), api.OK}, {example(func(b *api.InsureBook) { b.Tunnel.Parts[1].Damp = one(0) }, rates(1, 1, 1, 19, 20)), 0, plan(nil, 0, 1), api.OK}, {example(func(b *api.InsureBook) { b.Tunnel.Parts[1].Damp = one(0) }, rates(1, 1, 1, 21, 20)), 0, plan(nil, 0, 0), api.OK},
		// the first one, of equal ones
		{free, 0, plan(nil, 0, 0), api.OK}, {free, 1, plan(lots(0), 0, 0), api.OK}, {free, 42, plan(lots(0, 1), 0, 0), api.OK}, {free, 51, plan(lots(0, 1, 2), 0, 0), api.OK}, {example(rates(0, 0, 0, 0, 1)), 60, plan(lots(0, 1, 2), 0, 0), api.OK}, {example(row(one(5), one(5), one(5)), far(4, 20, 200, 0), func(b *api.InsureBook) { b.Yard.Doors[0] = at(4, 0) }), 10, plan(lots(0, 1), 0, 0), api.OK}, {example(row(one(5), one(5), one(5)), far(5, 20, 200, 0), func(b *api.InsureBook) { b.Yard.Doors[0] = at(4, 0) }), 10, plan(lots(0, 2), 0, 0), api.OK},
		{example(), -1, api.InsurePlan{}, api.ErrInsureAsk}, {example(), 10000, api.InsurePlan{}, api.ErrInsureAsk},
	} {
		if p, e := insure.Cheapest(x.b, x.want); !samePlan(p, x.p) || e != x.e {
			t.Errorf("Cheapest %d: %v, %d", i, p, e)
		}
	}
}

// TestMost is of P10.5.
func TestMost(t *testing.T) {
	free := example(rates(0, 0, 0, 0, 0))
	for i, x := range []struct {
		b   api.InsureBook
		pay int
		p   api.InsurePlan
		e   api.Errno
	}{
		// of the chapter
		{example(), 75, plan(lots(1, 2), 0, 0), api.OK}, {example(), 10, api.InsurePlan{}, api.ErrNone},
		// just enough, and one less
		{example(), 20, plan(nil, 0, 0), api.OK}, {example(), 19, api.InsurePlan{}, api.ErrNone}, {example(), 0, api.InsurePlan{}, api.ErrNone}, {example(), 40, plan(lots(2), 0, 0), api.OK}, {example(), 39, plan(nil, 0, 0), api.OK}, {example(), 45, plan(lots(0), 0, 0), api.OK}, {example(), 44, plan(lots(2), 0, 0), api.OK}, {example(), 50, plan(lots(1), 0, 0), api.OK}, {example(), 49, plan(lots(0), 0, 0), api.OK}, {example(), 70, plan(lots(1, 2), 0, 0), api.OK}, {example(), 69, plan(lots(1), 0, 0), api.OK}, {example(), 84, plan(lots(0, 1), 0, 0), api.OK}, {example(), 83, plan(lots(1, 2), 0, 0), api.OK}, {example(), 9999, plan(lots(0, 1, 2, 3), 0, 0), api.OK},
		// nothing to pay
		{free, 0, plan(lots(0, 1, 2, 3), 0, 0), api.OK}, {example(calm), 0, plan(nil, 0, 0), api.OK}, {example(calm), 25, plan(lots(0), 0, 0), api.OK},
		// as many goods for less, and then the first ones
		{example(row(to(5, 9), to(5, 8), to(5, 8), to(5, 9)), calm, far(0, 200, 200, 0)), 10, plan(lots(1), 0, 0), api.OK}, {example(row(to(5, 9), to(5, 8), to(5, 8), to(5, 9)), calm, far(0, 200, 200, 0)), 17, plan(lots(1, 2), 0, 0), api.OK}, {example(row(one(5), one(5), one(5)), calm, far(0, 200, 200, 0)), 11, plan(lots(0, 1), 0, 0), api.OK}, {example(row(one(0), one(5), one(0)), calm, far(0, 200, 200, 0)), 5, plan(lots(0, 1), 0, 0), api.OK}, {example(row(one(0), one(0)), calm, far(0, 200, 200, 0)), 5, plan(nil, 0, 0), api.OK},
		// goods that there only perhaps are cost, but do not count
		{example(row(to(1, 99), one(2)), calm, far(0, 200, 200, 0)), 100, plan(lots(1), 0, 0), api.OK}, {example(row(to(1, 99), one(2)), calm, far(0, 200, 200, 0)), 101, plan(lots(0, 1), 0, 0), api.OK},
		// heat for a frame that is dry then
		{example(func(b *api.InsureBook) { b.Tunnel.Parts[1].Damp = one(0) }), 2, plan(nil, 0, 1), api.OK}, {example(func(b *api.InsureBook) { b.Tunnel.Parts[1].Damp = one(0) }), 1, api.InsurePlan{}, api.ErrNone}, {example(func(b *api.InsureBook) { b.Tunnel.Parts[1].Damp = one(0) }), 9999, plan(lots(0, 1, 2, 3), 0, 1), api.OK},
		{example(), -1, api.InsurePlan{}, api.ErrInsureAsk}, {example(), 10000, api.InsurePlan{}, api.ErrInsureAsk},
	} {
		if p, e := insure.Most(x.b, x.pay); !samePlan(p, x.p) || e != x.e {
			t.Errorf("Most %d: %v, %d", i, p, e)
		}
	}
}

// TestBurns is of P10.6 and, of Loss, P10.7.
func TestBurns(t *testing.T) {
	all := lots(0, 1, 2, 3)
	street := func(apart, wrong int) api.InsureBook {
		return example(row(to(1, 2), to(3, 5), to(7, 11), to(13, 19), to(23, 31)), far(apart, 20, 12, wrong))
	}
	for i, x := range []struct {
		b               api.InsureBook
		choice          []int
		lot             int
		surely, perhaps []int
		loss            api.Span
	}{
		// of the chapter
		{example(), all, 1, lots(1), lots(0, 1, 2), to(30, 75)},
		{example(), all, 0, lots(0), lots(0, 1, 2), to(20, 75)}, {example(), all, 2, lots(2), lots(0, 1, 2), to(12, 75)}, {example(), all, 3, lots(3), lots(3), to(40, 50)}, {example(), lots(1, 2), 1, lots(1), lots(1), one(30)}, {example(), lots(0), 0, lots(0), lots(0), to(20, 25)},
		// 6 and 8 apart, and 14 by another one
		{example(far(7, 20, 12, 0)), all, 1, lots(0, 1), lots(0, 1), to(50, 55)}, {example(far(6, 20, 12, 0)), all, 1, lots(1), lots(1), one(30)}, {example(far(9, 20, 12, 0)), all, 1, lots(0, 1, 2), lots(0, 1, 2), to(62, 75)}, {example(far(9, 20, 12, 0)), lots(1, 2), 1, lots(1), lots(1), one(30)}, {example(far(8, 20, 12, 1)), all, 1, lots(0, 1), lots(0, 1, 2), to(50, 75)}, {example(far(8, 20, 12, 1)), all, 2, lots(2), lots(0, 1, 2), to(12, 75)}, {example(far(0, 20, 12, 20)), all, 0, lots(0), lots(0), to(20, 25)}, {example(far(200, 20, 12, 20)), all, 3, all, all, to(102, 125)},
		// fire goes on and on, both ways
		{street(5, 0), lots(0, 1, 2, 3, 4), 0, lots(0, 1, 2, 3, 4), lots(0, 1, 2, 3, 4), to(47, 68)}, {street(5, 0), lots(0, 1, 2, 3, 4), 4, lots(0, 1, 2, 3, 4), lots(0, 1, 2, 3, 4), to(47, 68)}, {street(5, 0), lots(0, 1, 3, 4), 4, lots(3, 4), lots(3, 4), to(36, 50)}, {street(5, 0), lots(0, 1, 3, 4), 0, lots(0, 1), lots(0, 1), to(4, 7)}, {street(5, 1), lots(0, 1, 2, 3, 4), 2, lots(2), lots(0, 1, 2, 3, 4), to(7, 68)}, {street(4, 1), lots(0, 1, 3), 1, lots(1), lots(0, 1), to(3, 7)}, {street(9, 3), lots(0, 1, 3, 4), 3, lots(3, 4), lots(0, 1, 3, 4), to(36, 57)}, {street(9, 0), lots(0, 2, 4), 4, lots(0, 2, 4), lots(0, 2, 4), to(31, 44)}, {street(8, 0), lots(0, 2, 4), 4, lots(4), lots(4), to(23, 31)},
	} {
		p := plan(x.choice, 0, 0)
		l, m, e := insure.Burns(x.b, p, x.lot)
		if !slices.Equal(l, x.surely) || !slices.Equal(m, x.perhaps) || e != api.OK {
			t.Errorf("Burns %d: %v, %v, %d", i, l, m, e)
		}
		if s, e := insure.Loss(x.b, p, x.lot); s != x.loss || e != api.OK {
			t.Errorf("Loss %d: %v, %d", i, s, e)
		}
	}
}

// TestWorst is of Worst of P10.7.
func TestWorst(t *testing.T) {
	street := func(goods ...api.Span) api.InsureBook { return example(row(goods...), far(5, 20, 12, 0)) }
	for i, x := range []struct {
		b      api.InsureBook
		choice []int
		lot    int
		e      api.Errno
	}{
		{example(), lots(0, 1, 2, 3), 0, api.OK}, // of the chapter
		{example(), nil, 0, api.ErrNone}, {example(), lots(1, 2, 3), 3, api.OK}, {example(), lots(1, 2), 1, api.OK}, {example(), lots(3), 3, api.OK}, {example(), lots(0, 2, 3), 3, api.OK}, {example(far(7, 20, 12, 0)), lots(0, 1, 2, 3), 0, api.OK}, {example(far(6, 20, 12, 0)), lots(0, 1, 2, 3), 3, api.OK},
		{street(one(1), one(2), one(9), one(9)), lots(0, 1, 3), 3, api.OK}, {street(one(1), one(9), one(9), one(9)), lots(0, 1, 3), 0, api.OK}, {street(one(5), one(0), one(5)), lots(0, 2), 0, api.OK}, {street(one(0), one(0), one(0)), lots(1, 2), 1, api.OK}, {street(one(0), one(0), one(0)), lots(0, 2), 0, api.OK}, {street(to(5, 6), one(0), to(0, 7)), lots(0, 2), 2, api.OK}, {street(to(0, 6), one(0), to(5, 6)), lots(0, 2), 0, api.OK},
	} {
		if n, e := insure.Worst(x.b, plan(x.choice, 0, 0)); n != x.lot || e != x.e {
			t.Errorf("Worst %d: %d, %d", i, n, e)
		}
	}
}

// TestBucket is of P10.8.
func TestBucket(t *testing.T) {
	door := far(7, 40, 12, 2)
	three := buckets(at(90, 90), at(90, 91), at(90, 92))
	for i, x := range []struct {
		b      api.InsureBook
		choice []int
		spare  int
		e      api.Errno
	}{
		{example(), lots(3), 0, api.ErrNone}, {example(door), lots(3), 0, api.OK}, // of the chapter
		{example(door), nil, 0, api.ErrNone}, {example(door), lots(0, 1, 2), 0, api.ErrNone}, {example(door), lots(0, 1, 2, 3), 0, api.OK}, {example(door, rates(1, 9, 0, 2, 20)), lots(3), 0, api.ErrNone}, {example(door, rates(0, 0, 1, 0, 0)), lots(3), 0, api.OK}, {example(door, spares()), lots(3), 0, api.ErrNone},
		// what one more perhaps serves is not less at most
		{example(far(7, 40, 8, 2)), lots(3), 0, api.OK}, {example(far(7, 40, 7, 2)), lots(3), 0, api.ErrNone}, {example(far(7, 40, 6, 0)), lots(3), 0, api.OK}, {example(far(7, 40, 5, 0)), lots(3), 0, api.ErrNone},
		// what is perhaps served is served surely then
		{example(far(7, 20, 9, 2)), lots(0), 0, api.ErrNone}, {example(far(7, 20, 9, 2), spares(at(14, 14), at(11, 10))), lots(0), 1, api.OK}, {example(far(7, 20, 9, 2), spares(at(14, 14))), lots(0), 0, api.ErrNone},
		// the most, and the first one
		{example(door, spares(at(90, 90), at(28, 26), at(30, 30))), lots(3), 1, api.OK}, {example(buckets(), spares(at(10, 20), at(13, 12))), lots(0, 1, 2), 1, api.OK}, {example(buckets(), spares(at(13, 12), at(10, 20))), lots(0, 1, 2), 0, api.OK}, {example(buckets(), spares(at(90, 90), at(10, 26), at(12, 12))), lots(0, 2), 2, api.OK},
		// of four buckets the old ones count, too
		{example(door, three), lots(3), 0, api.OK}, {example(door, buckets(at(14, 14), at(90, 90), at(30, 30))), lots(0, 3), 0, api.ErrNone}, {example(three, spares(at(10, 2), at(14, 14))), lots(0, 1, 2), 1, api.OK}, {example(far(7, 40, 3, 0), buckets(at(16, 10), at(10, 18), at(90, 90)), spares(at(16, 11), at(30, 31))), lots(1, 2, 3), 1, api.OK},
	} {
		if n, e := insure.Bucket(x.b, plan(x.choice, 0, 0)); n != x.spare || e != x.e {
			t.Errorf("Bucket %d: %d, %d", i, n, e)
		}
	}
}

// TestParts is of P10.9.
func TestParts(t *testing.T) {
	p := plan(lots(1, 2), 0, 1)
	free := example(rates(0, 0, 0, 0, 0))
	for i, x := range []struct {
		b    api.InsureBook
		many int
		want []int
	}{
		{example(), 5, lots(15, 15, 14, 14, 14)}, // of the chapter
		{example(), 1, lots(72)}, {example(), 2, lots(36, 36)}, {example(), 7, lots(11, 11, 10, 10, 10, 10, 10)}, {example(), 11, lots(7, 7, 7, 7, 7, 7, 6, 6, 6, 6, 6)}, {example(), 12, slices.Repeat(lots(6), 12)},
		{free, 1, lots(0)}, {free, 12, make([]int, 12)}, {example(rates(0, 0, 0, 5, 0)), 12, lots(1, 1, 1, 1, 1, 0, 0, 0, 0, 0, 0, 0)}, {example(rates(0, 0, 0, 1, 0)), 2, lots(1, 0)},
	} {
		if l, e := insure.Parts(x.b, p, x.many); !slices.Equal(l, x.want) || e != api.OK {
			t.Errorf("Parts %d: %v, %d", i, l, e)
		}
	}
	most := plan(lots(0, 1, 2, 3, 4, 5, 6), 3, 3, 3, 3)
	if l, e := insure.Parts(top(), most, 2); len(l) != 2 || l[0]+l[1] != 79794-7*99-5*99 || e != api.OK {
		t.Errorf("Parts of the most: %v, %d", l, e)
	}
}
