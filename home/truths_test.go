package home_test

import (
	"math/rand"
	"slices"
	"testing"

	"lucifer/api"
	"lucifer/fold"
	"lucifer/home"
)

// The tests in this file hold the package against the definitions, and against the chapter's properties, on many books.

const many = 300

// kindsOf returns whether the worker's boxes pass: always, perhaps, or never.
func kindsOf(b api.HomeBook, worker int) int {
	does, _ := fold.Does(b.Sheet, b.Workers[worker].Order)
	return does
}

// TestTruths is of P9.1, P9.2 and P9.8: all truths of a worker are tried out.
func TestTruths(t *testing.T) {
	kinds, right := map[int]int{}, map[api.Errno]int{}
	for _, b := range append(someBooks(many), largeBooks(many)...) {
		for worker, o := range outcomes(b) {
			f := o.right()
			if is, e := home.Right(b, worker); is != (f == api.OK) || e != api.OK {
				t.Fatalf("Right of %v, %d: %v, %d", b, worker, is, e)
			}
			if s, e := home.Passes(b, worker); s != o.passes.Span || e != f {
				t.Fatalf("Passes of %v, %d: %v, not %v, %d", b, worker, s, o.passes, e)
			}
			if s, e := home.Missing(b, worker); s != o.missing.Span || e != f {
				t.Fatalf("Missing of %v, %d: %v, not %v, %d", b, worker, s, o.missing, e)
			}
			if s, e := home.Gets(b, worker); s != o.gets.Span || e != f {
				t.Fatalf("Gets of %v, %d: %v, not %v, %d", b, worker, s, o.gets, e)
			}
			kinds[kindsOf(b, worker)]++
			right[f]++
		}
	}
	if kinds[0] < many/5 || kinds[1] < many/5 || kinds[2] < many/5 || right[api.ErrHomeFalse] < 50 {
		t.Errorf("so many orders do: %v; so many accounts can be true: %v", kinds, right)
	}
}

// sameTogether fails if the package tells something else of all workers together.
func sameTogether(t *testing.T, b api.HomeBook, total, grosses api.Span, f api.Errno) {
	t.Helper()
	if s, e := home.Total(b); s != total || e != f {
		t.Fatalf("Total of %v: %v, not %v, %d", b, s, total, e)
	}
	if s, e := home.Grosses(b); s != grosses || e != f {
		t.Fatalf("Grosses of %v: %v, not %v, %d", b, s, grosses, e)
	}
}

// TestTogether is of P9.1 and P9.3: all truths of all workers are tried out.
func TestTogether(t *testing.T) {
	right, apart := map[api.Errno]int{}, 0
	for _, b := range someBooks(many) {
		o := together(b)
		sameTogether(t, b, o.gets.Span, o.grosses.Span, o.right())
		right[o.right()]++
		if o.grosses.Low < o.grosses.High {
			apart++
		}
	}
	if right[api.OK] < many/2 || right[api.ErrHomeFalse] < 20 || apart < 50 {
		t.Errorf("so many books can be true: %v; of %d there are more gross or fewer", right, apart)
	}
}

// TestLargeTogether is of P9.1 and P9.3, with large books: what is so of each worker is added up.
func TestLargeTogether(t *testing.T) {
	for _, b := range largeBooks(many) {
		var total, boxes api.Span
		for _, o := range outcomes(b) {
			total = to(total.Low+o.gets.Low, total.High+o.gets.High)
			boxes = to(boxes.Low+o.passes.Low, boxes.High+o.passes.High)
		}
		if len(untruths(b)) > 0 {
			sameTogether(t, b, api.Span{}, api.Span{}, api.ErrHomeFalse)
			continue
		}
		sameTogether(t, b, total, to(wholes(boxes.Low, b.Gross), wholes(boxes.High, b.Gross)), api.OK)
	}
}

// TestWorkers is of P9.1, P9.4, P9.5 and P9.12.
func TestWorkers(t *testing.T) {
	teach, ask, errors := map[int]int{}, map[int]int{}, map[api.Errno]int{}
	for _, b := range append(someBooks(many), largeBooks(many)...) {
		if l, e := home.Wrong(b); !slices.Equal(l, untruths(b)) || e != api.OK {
			t.Fatalf("Wrong of %v: %v, %d", b, l, e)
		}
		want, f := teachOf(b)
		n, e := home.Teach(b)
		if n != want || e != f {
			t.Fatalf("Teach of %v: %d, not %d, %d", b, n, want, e)
		}
		if e == api.OK {
			teach[n]++
		}
		errors[e]++
		want, f = askOf(b)
		n, e = home.Ask(b)
		if n != want || e != f {
			t.Fatalf("Ask of %v: %d, not %d, %d", b, n, want, e)
		}
		if e == api.OK {
			ask[n]++
		}
	}
	if len(teach) != api.HomeWorkers || len(ask) != api.HomeWorkers || errors[api.ErrNone] < 50 || errors[api.ErrHomeFalse] < 20 {
		t.Errorf("so often a worker is taught: %v (errors: %v); asked: %v", teach, errors, ask)
	}
}

// around returns a span that a number lies in.
func around(r *rand.Rand, n int) api.Span {
	low := max(0, n-r.Intn(6))
	return to(low, min(n+r.Intn(6), low+api.HomeSpan, api.HomeSheets))
}

// folded returns whether boxes pass that were folded in an order, of which each flap reaches as far as in one truth of the sheet.
func folded(r *rand.Rand, s api.FoldSheet, order []int) bool {
	s.Flaps = slices.Clone(s.Flaps)
	for i, f := range s.Flaps {
		s.Flaps[i].Reach = one(f.Reach.Low + r.Intn(f.Reach.High-f.Reach.Low+1))
	}
	does, _ := fold.Does(s, order)
	return does == 2
}

// happened returns what became of the sheets of each worker, and a book of it.
func happened(r *rand.Rand) (api.HomeBook, []fact) {
	b := api.HomeBook{Sheet: someSheet(r), Gross: 1 + r.Intn(12), Pay: r.Intn(api.HomePay + 1), Fine: r.Intn(api.HomeFine + 1)}
	var facts []fact
	for range r.Intn(api.HomeWorkers + 1) {
		w := someWorker(r, b.Sheet, 9)
		boxes, torn := r.Intn(25), r.Intn(5)
		f := fact{missing: r.Intn(5)}
		w.Sheets, w.Back, w.Torn = boxes+torn+f.missing, around(r, boxes), around(r, torn)
		for range boxes {
			if folded(r, b.Sheet, w.Order) {
				f.pass++
			}
		}
		f.gets = wholes(f.pass, b.Gross)*b.Pay - f.missing*b.Fine
		b.Workers, facts = append(b.Workers, w), append(facts, f)
	}
	return b, facts
}

// lies reports whether a number is in what was returned.
func lies(n int, s api.Span, e api.Errno) bool { return n >= s.Low && n <= s.High && e == api.OK }

// TestWhatHappened is of P9.7: boxes are folded one by one.
func TestWhatHappened(t *testing.T) {
	r := rand.New(rand.NewSource(3))
	some := 0
	for range many {
		b, facts := happened(r)
		if l, e := home.Wrong(b); len(l) > 0 || e != api.OK {
			t.Fatalf("Wrong of %v: %v, %d", b, l, e)
		}
		total, boxes := 0, 0
		for worker, f := range facts {
			passes, e := home.Passes(b, worker)
			missing, g := home.Missing(b, worker)
			gets, h := home.Gets(b, worker)
			if !lies(f.pass, passes, e) || !lies(f.missing, missing, g) || !lies(f.gets, gets, h) {
				t.Fatalf("of %v, %d there is %v, and it is told: %v, %v, %v", b, worker, f, passes, missing, gets)
			}
			total, boxes = total+f.gets, boxes+f.pass
			if f.pass > 0 && kindsOf(b, worker) == 1 {
				some++
			}
		}
		s, e := home.Total(b)
		g, f := home.Grosses(b)
		if !lies(total, s, e) || !lies(wholes(boxes, b.Gross), g, f) {
			t.Fatalf("of %v there is %d for %d boxes, and it is told: %v, %v", b, total, boxes, s, g)
		}
	}
	if some < 50 {
		t.Errorf("only %d workers have boxes that perhaps pass, and did", some)
	}
}

// TestGoodOrder is of P9.9.
func TestGoodOrder(t *testing.T) {
	more := 0
	for _, b := range trueBooks(many) {
		order, e := fold.Order(b.Sheet)
		if e != api.OK {
			continue
		}
		for worker, w := range b.Workers {
			c := b
			c.Workers = slices.Clone(b.Workers)
			c.Workers[worker] = in(w, order...)
			before, e := home.Gets(b, worker)
			after, f := home.Gets(c, worker)
			if e != api.OK || f != api.OK || after.Low < before.Low {
				t.Fatalf("Gets of %v, %d: %v, %d, but in the order that does: %v, %d", b, worker, before, e, after, f)
			}
			if after.Low > before.Low {
				more++
			}
		}
	}
	if more < 50 {
		t.Errorf("only %d workers get more", more)
	}
}

// TestTerms is of P9.10.
func TestTerms(t *testing.T) {
	r := rand.New(rand.NewSource(4))
	changed := 0
	for _, b := range trueBooks(many) {
		smaller := withTerms(b, 1+r.Intn(b.Gross), b.Pay, b.Fine)
		dearer := withTerms(b, b.Gross, b.Pay, b.Fine+r.Intn(api.HomeFine-b.Fine+1))
		grosses, _ := home.Grosses(b)
		for worker := range b.Workers {
			passes, _ := home.Passes(b, worker)
			if alone := to(wholes(passes.Low, b.Gross), wholes(passes.High, b.Gross)); grosses.Low < alone.Low || grosses.High < alone.High {
				t.Fatalf("Grosses of %v: %v, but of %d alone %v", b, grosses, worker, alone)
			}
			s, _ := home.Gets(b, worker)
			more, _ := home.Gets(smaller, worker)
			less, _ := home.Gets(dearer, worker)
			if more.Low < s.Low || more.High < s.High || less.Low > s.Low || less.High > s.High {
				t.Fatalf("Gets of %v, %d: %v; for a gross of %d: %v; with a fine of %d: %v", b, worker, s, smaller.Gross, more, dearer.Fine, less)
			}
			if more != s && less != s {
				changed++
			}
		}
		s, _ := home.Total(b)
		more, _ := home.Total(smaller)
		less, _ := home.Total(dearer)
		if more.Low < s.Low || more.High < s.High || less.Low > s.Low || less.High > s.High {
			t.Fatalf("Total of %v: %v; for a gross of %d: %v; with a fine of %d: %v", b, s, smaller.Gross, more, dearer.Fine, less)
		}
	}
	if changed < 50 {
		t.Errorf("only %d workers get something else", changed)
	}
}

// part returns a part of a span.
func part(r *rand.Rand, s api.Span) api.Span {
	low := s.Low + r.Intn(s.High-s.Low+1)
	return to(low, low+r.Intn(s.High-low+1))
}

// TestMoreKnown is of P9.11.
func TestMoreKnown(t *testing.T) {
	r := rand.New(rand.NewSource(5))
	less := map[int]int{}
	for _, b := range trueBooks(many) {
		for worker, w := range b.Workers {
			c := b
			c.Workers = slices.Clone(b.Workers)
			c.Workers[worker].Back, c.Workers[worker].Torn = part(r, w.Back), part(r, w.Torn)
			for i, tell := range []func(api.HomeBook, int) (api.Span, api.Errno){home.Passes, home.Missing, home.Gets} {
				before, e := tell(b, worker)
				after, f := tell(c, worker)
				if f == api.ErrHomeFalse {
					continue
				}
				if e != api.OK || f != api.OK || after.Low < before.Low || after.High > before.High {
					t.Fatalf("of %v, %d is told: %v, %d, and of %v: %v, %d", b, worker, before, e, c, after, f)
				}
				if after != before {
					less[i]++
				}
			}
		}
	}
	if less[0] < 50 || less[1] < 50 || less[2] < 50 {
		t.Errorf("so often less can be: %v", less)
	}
}

// TestTaught is of P9.12: no other worker brings more boxes more that pass.
func TestTaught(t *testing.T) {
	some := 0
	for _, b := range trueBooks(many) {
		worker, e := home.Teach(b)
		if e != api.OK {
			continue
		}
		order, _ := fold.Order(b.Sheet)
		var more []int
		for i, w := range b.Workers {
			c := b
			c.Workers = slices.Clone(b.Workers)
			c.Workers[i] = in(w, order...)
			before, _ := home.Passes(b, i)
			after, _ := home.Passes(c, i)
			more = append(more, after.Low-before.Low)
		}
		if more[worker] < 1 || more[worker] != slices.Max(more) {
			t.Fatalf("Teach of %v: %d, but so many boxes more pass: %v", b, worker, more)
		}
		some++
	}
	if some < 50 {
		t.Errorf("in only %d books a worker is taught", some)
	}
}
