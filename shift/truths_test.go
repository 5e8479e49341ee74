package shift_test

import (
	"math/rand"
	"slices"
	"testing"

	"lucifer/api"
	"lucifer/paste"
	"lucifer/shift"
)

// The tests in this file hold the package against the definitions, and against the chapter's properties, on many books.

const many = 400

// TestOracle holds the two ways against each other by which the tests find out whether there is a plan.
func TestOracle(t *testing.T) {
	for _, b := range someBooks(many) {
		k := know(b)
		best, some := k.best()
		if some != k.enough() || some && (!k.isPlan(best) || !slices.Equal(best, k.longBest())) {
			t.Fatalf("%v: %v, %v", b, best, some)
		}
	}
}

// TestHours is of P7.1.
func TestHours(t *testing.T) {
	some, trials := map[int]int{}, 0
	for _, b := range append(someBooks(many), largeBooks(many)...) {
		for worker, can := range know(b).can {
			for p, want := range can {
				if n, e := shift.Allowed(b, worker, p); n != want || e != api.OK {
					t.Fatalf("Allowed of %v, %d at %d: %d, not %d, %d", b, worker, p, n, want, e)
				}
				some[want]++
				untried := b.Pastes[p].Book
				untried.Trials = nil
				if n, _ := shift.Allowed(of(b, p, untried), worker, p); n != want {
					trials++
				}
			}
		}
	}
	if len(some) != 13 || some[0] < 50 || some[12] < 50 || trials < 50 {
		t.Errorf("so often so many hours are allowed: %v; %d times more because of trials", some, trials)
	}
}

// near returns lists of turns that are a plan, or differ a little from one.
func near(r *rand.Rand, plan []api.ShiftTurn) [][]api.ShiftTurn {
	all := [][]api.ShiftTurn{plan}
	for i := range plan {
		for _, d := range []api.ShiftTurn{{Worker: 1}, {Worker: -1}, {Paste: 1}, {Paste: -1}, {Hours: 1}, {Hours: -1}} {
			other := slices.Clone(plan)
			t := &other[i]
			t.Worker, t.Paste, t.Hours = t.Worker+d.Worker, t.Paste+d.Paste, t.Hours+d.Hours
			all = append(all, other)
			if k := r.Intn(len(plan)); d.Hours != 0 && k != i { // as many hours in all
				other = slices.Clone(other)
				other[k].Hours -= d.Hours
				all = append(all, other)
			}
		}
		all = append(all, slices.Delete(slices.Clone(plan), i, i+1), slices.Insert(slices.Clone(plan), i, plan[i]), slices.Concat(plan[i:], plan[:i]))
	}
	return all
}

// TestAllPlans is of P7.2: all plans are tried out, and lists that are near to them.
func TestAllPlans(t *testing.T) {
	r := rand.New(rand.NewSource(3))
	some := map[bool]int{}
	for _, b := range someBooks(many) {
		k, n := know(b), 0
		for plan := range k.plans() {
			if n++; n > 15 {
				break
			}
			for _, list := range near(r, plan) {
				want := k.isPlan(list)
				if is, e := shift.IsPlan(b, list); is != want || e != api.OK {
					t.Fatalf("IsPlan of %v, %v: %v, not %v, %d", b, list, is, want, e)
				}
				some[want]++
			}
		}
		if is, e := shift.Enough(b); is != (n > 0) || e != api.OK {
			t.Fatalf("Enough of %v: %v, %d; there are %d plans", b, is, e, n)
		}
	}
	for _, b := range largeBooks(many) {
		if is, e := shift.Enough(b); is != know(b).enough() || e != api.OK {
			t.Fatalf("Enough of %v: %v, %d", b, is, e)
		}
	}
	if some[true] < many || some[false] < many {
		t.Errorf("so many lists are plans: %v", some)
	}
}

// TestBestOfAll is of P7.3 and P7.10: all plans are tried out.
func TestBestOfAll(t *testing.T) {
	plans, none, later := 0, 0, 0
	for _, b := range someBooks(2 * many) {
		k := know(b)
		want, some := k.best()
		best, e := shift.Best(b)
		if !some {
			if len(best) > 0 || e != api.ErrNone {
				t.Fatalf("Best of %v: %v, %d", b, best, e)
			}
			none++
			continue
		}
		if !slices.Equal(best, want) || e != api.OK {
			t.Fatalf("Best of %v: %v, not %v, %d", b, best, want, e)
		}
		plans++
		for plan := range k.plans() {
			if len(plan) < len(best) {
				t.Fatalf("%v has fewer turns than %v, the best of %v", plan, best, b)
			}
			if len(plan) == len(best) && len(best) > 0 && plan[0].Worker == best[0].Worker && plan[0].Paste == best[0].Paste && plan[0].Hours > best[0].Hours {
				later++ // for the sake of a turn after the first one
				break
			}
		}
	}
	if plans < many/2 || none < many/4 || later < 5 {
		t.Errorf("%d books have plans, %d have none, %d have one with more hours in its first turn than the best", plans, none, later)
	}
}

// TestLargeBest is of P7.3 and P7.10, with large books.
func TestLargeBest(t *testing.T) {
	lengths := map[int]int{}
	r := rand.New(rand.NewSource(7))
	books := append(largeBooks(many), rightBooks()["the most"])
	for i := range many {
		books = append(books, someBook(r, 2+i%2, 3+i%2, 2+r.Intn(5))) // with short turns, and so with many
	}
	for _, b := range books {
		k := know(b)
		best, e := shift.Best(b)
		if !k.enough() {
			if len(best) > 0 || e != api.ErrNone {
				t.Fatalf("Best of %v: %v, %d", b, best, e)
			}
			continue
		}
		if want := k.longBest(); !slices.Equal(best, want) || e != api.OK || !k.isPlan(best) {
			t.Fatalf("Best of %v: %v, not %v, %d", b, best, want, e)
		}
		lengths[len(best)]++
	}
	for n := range 9 {
		if lengths[n] < 5 {
			t.Errorf("so many plans have so many turns: %v", lengths)
		}
	}
}

// TestShortPastes is of P7.4 and P7.11.
func TestShortPastes(t *testing.T) {
	some := map[int]int{}
	for _, b := range append(someBooks(2*many), largeBooks(4*many)...) {
		k := know(b)
		want, e := k.short()
		short, got := shift.Short(b)
		if !slices.Equal(short, want) || got != e {
			t.Fatalf("Short of %v: %v, not %v, %d", b, short, want, got)
		}
		some[len(short)]++
		if e != api.OK {
			continue
		}
		needed, worked := 0, 0
		for _, p := range short {
			needed += b.Pastes[p].Hours
		}
		for worker, can := range k.can {
			hours := 0
			for _, p := range short {
				hours += can[p]
			}
			worked += min(hours, b.Workers[worker].Free)
		}
		if worked >= needed {
			t.Fatalf("Short of %v: %v, but of %d hours %d can be worked", b, short, needed, worked)
		}
		for i := range short {
			if fewer := slices.Delete(slices.Clone(short), i, i+1); len(fewer) > 0 && !k.these(fewer).enough() {
				t.Fatalf("Short of %v: %v, but there are not enough for %v", b, short, fewer)
			}
		}
	}
	for n := range 4 {
		if some[n] < 20 {
			t.Errorf("so many books have so many pastes that are short: %v", some)
		}
	}
}

// TestMoreHours is of P7.5.
func TestMoreHours(t *testing.T) {
	some := map[bool]int{}
	for _, b := range append(someBooks(many), largeBooks(many)...) {
		k := know(b)
		for p := range b.Pastes {
			want, e := k.longer(p)
			if n, got := shift.Longer(b, p); n != want || got != e {
				t.Fatalf("Longer of %v, %d: %d, not %d, %d", b, p, n, want, got)
			}
			some[want > 0]++
			if n := b.Pastes[p].Hours + want; e == api.OK && n < api.ShiftNeed {
				if is, _ := shift.Enough(needing(b, p, n)); !is {
					t.Fatalf("Longer of %v, %d: %d, but these are too many", b, p, want)
				}
				if is, _ := shift.Enough(needing(b, p, n+1)); is {
					t.Fatalf("Longer of %v, %d: %d, but one more is not too many", b, p, want)
				}
			}
		}
	}
	if some[true] < many/2 || some[false] < many/2 {
		t.Errorf("so often more hours can be needed: %v", some)
	}
}

// TestWithoutWorkers is of P7.6.
func TestWithoutWorkers(t *testing.T) {
	some := map[int]int{}
	for _, b := range append(someBooks(many), largeBooks(many)...) {
		want, e := know(b).spared()
		l, got := shift.Spared(b)
		if !slices.Equal(l, want) || got != e {
			t.Fatalf("Spared of %v: %v, not %v, %d", b, l, want, got)
		}
		for _, worker := range l {
			some[worker]++
		}
	}
	for worker := range 4 {
		if some[worker] < 20 {
			t.Errorf("so often each worker is spared: %v", some)
		}
	}
}

// TestHired is of P7.7 and P7.13.
func TestHired(t *testing.T) {
	r := rand.New(rand.NewSource(4))
	some := map[int]int{}
	for i := range many {
		b := someBook(r, 1+i%3, r.Intn(5), 1+r.Intn(12))
		for p := range b.Pastes {
			b.Pastes[p].Hours = min(b.Pastes[p].Hours*(1+r.Intn(8)), api.ShiftNeed)
			if r.Intn(4) == 0 {
				b.Pastes[p].Hours = r.Intn(41)
			}
		}
		want, e := know(b).hire()
		n, got := shift.Hire(b)
		if n != want || got != e {
			t.Fatalf("Hire of %v: %d, not %d, %d", b, n, want, got)
		}
		if e != api.OK {
			n = -1
		}
		some[n]++
		for more := range 5 - len(b.Workers) { // more than 4 workers are no book
			if is, _ := shift.Enough(hired(b, more)); is != (e == api.OK && more >= n) {
				t.Fatalf("Hire of %v: %d, %d, but with %d more there is a plan: %v", b, n, e, more, is)
			}
		}
	}
	if len(some) < 15 || some[-1] < 10 || some[0] < 20 || some[1] < 20 {
		t.Errorf("so often so many are hired: %v", some)
	}
}

// TestAsTheDoctorSays is of P7.9.
func TestAsTheDoctorSays(t *testing.T) {
	some := 0
	for _, b := range append(someBooks(many), largeBooks(many)...) {
		best, e := shift.Best(b)
		if e != api.OK {
			continue
		}
		worked := make([]int, len(b.Pastes))
		for _, turn := range best {
			worked[turn.Paste] += turn.Hours
			for _, power := range powersOf(b.Pastes[turn.Paste].Book) {
				hours := tableOf(b, power)
				if turn.Hours > hours || b.Workers[turn.Worker].Young && 2*turn.Hours > hours {
					t.Fatalf("by the best plan of %v there is %v, but with the power %d only %d hours are allowed", b, turn, power, hours)
				}
				some++
			}
		}
		for p, hours := range worked {
			if hours != b.Pastes[p].Hours {
				t.Fatalf("by the best plan of %v %d hours are worked at %d", b, hours, p)
			}
		}
	}
	if some < many {
		t.Errorf("there are only %d turns", some)
	}
}

// knowing returns a paste of which more is known than of another one, and which can be true.
func knowing(r *rand.Rand, b api.PasteBook) api.PasteBook {
	for {
		c := b
		if r.Intn(2) == 0 && len(b.Trials) < api.PasteTrials {
			c.Trials = append(slices.Clone(b.Trials), api.PasteTrial{Surface: r.Intn(len(b.Surfaces)), Lit: r.Intn(2) == 0})
		} else {
			c.Salts = slices.Clone(b.Salts)
			s := &c.Salts[r.Intn(len(c.Salts))].Amount
			low := s.Low + r.Intn(s.High-s.Low+1)
			*s = to(low, low+r.Intn(s.High-low+1))
		}
		if is, _ := paste.Right(c); is {
			return c
		}
	}
}

// easier returns books with one worker more, more free hours, fewer hours that are needed, or of whose pastes more is known.
func easier(r *rand.Rand, b api.ShiftBook) []api.ShiftBook {
	var books []api.ShiftBook
	if len(b.Workers) < api.ShiftWorkers {
		place := r.Intn(len(b.Workers) + 1)
		books = append(books, withWorkers(b, slices.Insert(slices.Clone(b.Workers), place, worker(r.Intn(13), r.Intn(2) == 0))...))
	}
	for i, w := range b.Workers {
		c := withWorkers(b, slices.Clone(b.Workers)...)
		c.Workers[i].Free = min(w.Free+1+r.Intn(4), api.ShiftHours)
		books = append(books, c)
	}
	for i, p := range b.Pastes {
		books = append(books, needing(b, i, r.Intn(p.Hours+1)), of(b, i, knowing(r, p.Book)))
	}
	return books
}

// TestEasier is of P7.12.
func TestEasier(t *testing.T) {
	r := rand.New(rand.NewSource(5))
	some := map[bool]int{}
	for _, b := range append(someBooks(many), largeBooks(many)...) {
		before, e := shift.Enough(b)
		for _, c := range easier(r, b) {
			after, f := shift.Enough(c)
			if before && !after || e != api.OK || f != api.OK {
				t.Fatalf("there is a plan of %v: %v, %d, and of %v: %v, %d", b, before, e, c, after, f)
			}
			some[before]++
		}
	}
	if some[true] < many/2 {
		t.Errorf("so often there was a plan: %v", some)
	}
}
