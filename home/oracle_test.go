package home_test

import (
	"math/rand"
	"slices"

	"lucifer/api"
	"lucifer/fold"
)

// What follows computes from the definitions alone, by trying out everything: the tests hold the package against it.

// fact is what is so of a worker in a truth.
type fact struct{ pass, missing, gets int }

// tryOut tries out all numbers of boxes and of torn sheets that came back, and of boxes that pass, and tells each truth.
func tryOut(b api.HomeBook, w api.HomeWorker, tell func(f fact)) {
	does, _ := fold.Does(b.Sheet, w.Order)
	for boxes := w.Back.Low; boxes <= w.Back.High; boxes++ {
		for torn := w.Torn.Low; torn <= w.Torn.High; torn++ {
			for pass := 0; pass <= boxes && boxes+torn <= w.Sheets; pass++ {
				if does == 1 || does == 2 && pass == boxes || does == 0 && pass == 0 {
					missing := w.Sheets - boxes - torn
					tell(fact{pass, missing, wholes(pass, b.Gross)*b.Pay - missing*b.Fine})
				}
			}
		}
	}
}

// wholes returns how many whole gross there are.
func wholes(boxes, gross int) int {
	n := 0
	for (n+1)*gross <= boxes {
		n++
	}
	return n
}

// ends is the least and the greatest of several numbers.
type ends struct {
	api.Span
	some bool
}

func (x *ends) take(n int) {
	if !x.some {
		x.Span, x.some = one(n), true
	}
	x.Span = to(min(x.Low, n), max(x.High, n))
}

// outcome is what is so in the truths of a worker, or of all of them.
type outcome struct{ passes, missing, gets, grosses ends }

func (o *outcome) take(f fact, gross int) {
	o.passes.take(f.pass)
	o.missing.take(f.missing)
	o.gets.take(f.gets)
	o.grosses.take(wholes(f.pass, gross))
}

// right returns ErrHomeFalse if there is no truth.
func (o outcome) right() api.Errno {
	if !o.passes.some {
		return api.ErrHomeFalse
	}
	return api.OK
}

// outcomeOf returns what is so in the truths of a worker.
func outcomeOf(b api.HomeBook, w api.HomeWorker) outcome {
	var o outcome
	tryOut(b, w, func(f fact) { o.take(f, b.Gross) })
	return o
}

// outcomes returns what is so in the truths of each worker.
func outcomes(b api.HomeBook) []outcome {
	var all []outcome
	for _, w := range b.Workers {
		all = append(all, outcomeOf(b, w))
	}
	return all
}

// together tries out each truth of each worker with each one of all others. All boxes together are told of as those of one worker.
func together(b api.HomeBook) outcome {
	all := map[fact]bool{{}: true}
	for _, w := range b.Workers {
		next := map[fact]bool{}
		tryOut(b, w, func(f fact) {
			for before := range all {
				next[fact{before.pass + f.pass, before.missing + f.missing, before.gets + f.gets}] = true
			}
		})
		all = next
	}
	var o outcome
	for f := range all {
		o.take(f, b.Gross)
	}
	return o
}

// untruths returns all workers whose accounts cannot be true.
func untruths(b api.HomeBook) []int {
	var wrong []int
	for worker, o := range outcomes(b) {
		if o.right() != api.OK {
			wrong = append(wrong, worker)
		}
	}
	return wrong
}

// greatest returns the first one of the greatest numbers, or an error.
func greatest(b api.HomeBook, numbers []int) (int, api.Errno) {
	switch {
	case len(untruths(b)) > 0:
		return 0, api.ErrHomeFalse
	case len(numbers) == 0 || slices.Max(numbers) == 0:
		return 0, api.ErrNone
	}
	return slices.Index(numbers, slices.Max(numbers)), api.OK
}

// gains returns how many boxes more of each worker pass, at least, if all of them fold in the order that does.
func gains(b api.HomeBook) []int {
	order, e := fold.Order(b.Sheet)
	if e != api.OK {
		return nil
	}
	var more []int
	for _, w := range b.Workers {
		more = append(more, outcomeOf(b, in(w, order...)).passes.Low-outcomeOf(b, w).passes.Low)
	}
	return more
}

func teachOf(b api.HomeBook) (int, api.Errno) { return greatest(b, gains(b)) }

func askOf(b api.HomeBook) (int, api.Errno) {
	var apart []int
	for _, o := range outcomes(b) {
		apart = append(apart, o.gets.High-o.gets.Low)
	}
	return greatest(b, apart)
}

// perhaps is a sheet of two flaps that meet in some truths, one of which must lie over the other one.
func perhaps() api.FoldSheet {
	flaps := []api.FoldFlap{{Side: api.FoldLeft, Reach: to(4, 5)}, {Side: api.FoldRight, Reach: to(4, 5)}}
	return api.FoldSheet{Wide: 9, High: 9, Flaps: flaps, Rules: []api.FoldRule{{Over: 0, Under: 1}}}
}

// someSheet returns one of several sheets: orders of some surely do, of others perhaps, and some do not fold.
func someSheet(r *rand.Rand) api.FoldSheet {
	sheets := []api.FoldSheet{flapped(one(5)), flapped(one(5)), flapped(to(5, 6)), flapped(one(7)), piled(1), piled(3), piled(7), perhaps(), perhaps()}
	return sheets[r.Intn(len(sheets))]
}

// someSpan returns a span of numbers up to a greatest one.
func someSpan(r *rand.Rand, most int) api.Span {
	low := r.Intn(most + 1)
	return to(low, min(low+r.Intn(api.HomeSpan+1), most))
}

// someOrder returns an order of flaps: often the one that does, or one that perhaps does, if there are such ones.
func someOrder(r *rand.Rand, s api.FoldSheet) []int {
	if order, e := fold.Order(s); e == api.OK && r.Intn(3) == 0 {
		return order
	}
	order := r.Perm(len(s.Flaps))
	for range r.Intn(9) {
		if does, _ := fold.Does(s, order); does == 1 {
			break
		}
		order = r.Perm(len(s.Flaps))
	}
	return order
}

// someWorker returns a worker who was given up to so many sheets, and brought back about as many.
func someWorker(r *rand.Rand, s api.FoldSheet, most int) api.HomeWorker {
	w := api.HomeWorker{Order: someOrder(r, s), Back: someSpan(r, most), Torn: someSpan(r, most/4)}
	least := w.Back.Low + w.Torn.Low
	w.Sheets = max(0, min(least+r.Intn(30)-6, most))
	return w
}

// someBook returns a book of workers who were given up to so many sheets.
func someBook(r *rand.Rand, most int) api.HomeBook {
	b := api.HomeBook{Sheet: someSheet(r), Gross: 1 + r.Intn(min(2*most/3, api.HomeGross)), Pay: r.Intn(api.HomePay + 1), Fine: r.Intn(api.HomeFine + 1)}
	if r.Intn(3) == 0 {
		b.Pay, b.Fine = r.Intn(4), r.Intn(4)
	}
	for range r.Intn(api.HomeWorkers + 1) {
		w := someWorker(r, b.Sheet, most)
		// Most accounts can be true.
		for tries := r.Intn(3); tries > 0 && outcomeOf(b, w).right() != api.OK; tries-- {
			w = someWorker(r, b.Sheet, most)
		}
		b.Workers = append(b.Workers, w)
	}
	return b
}

// someBooks returns books of few sheets, the same ones at each call.
func someBooks(n int) []api.HomeBook {
	r := rand.New(rand.NewSource(1))
	var books []api.HomeBook
	for range n {
		books = append(books, someBook(r, 2+r.Intn(8)))
	}
	return books
}

// largeBooks returns books of any size, the same ones at each call.
func largeBooks(n int) []api.HomeBook {
	r := rand.New(rand.NewSource(2))
	var books []api.HomeBook
	for i := range n {
		books = append(books, someBook(r, []int{20, 150, api.HomeSheets}[i%3]))
	}
	return books
}

// trueBooks returns books of any size whose accounts can all be true.
func trueBooks(n int) []api.HomeBook {
	return slices.DeleteFunc(append(someBooks(n), largeBooks(n)...), func(b api.HomeBook) bool { return len(untruths(b)) > 0 })
}
