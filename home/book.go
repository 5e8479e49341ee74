package home

import (
	"lucifer/api"
	"lucifer/fold"
)

// valid reports whether a book is valid.
func valid(b api.HomeBook) bool {
	limits := [...]struct{ is, least, most int }{
		{b.Gross, 1, api.HomeGross},
		{b.Pay, 0, api.HomePay},
		{b.Fine, 0, api.HomeFine},
		{len(b.Workers), 0, api.HomeWorkers},
	}
	for _, l := range limits {
		if !within(l.is, l.least, l.most) {
			return false
		}
	}
	for _, w := range b.Workers {
		_, e := fold.Does(b.Sheet, w.Order)
		if e != api.OK || !within(w.Sheets, 0, api.HomeSheets) || !counted(w.Back) || !counted(w.Torn) {
			return false
		}
	}
	return fold.Check(b.Sheet) == api.OK
}

// order is the flaps of a sheet as they are folded in, each told by its number and 1 more: so that of none is zeros alone.
type order [api.FoldFlaps]int

// orderOf returns the order of a list of flaps.
func orderOf(flaps []int) order {
	var x order
	for place, flap := range flaps {
		x[place] = flap + 1
	}
	return x
}

// flaps returns an order as a list of flaps.
func (x order) flaps() []int {
	// The list can lie in the order's memory, for x is a copy.
	n := 0
	for n < len(x) && x[n] > 0 {
		x[n]--
		n++
	}
	return x[:n:n]
}

// book is a valid book.
type book struct {
	api.HomeBook
	lesson order // that workers are taught, if they are
}

// does returns whether an order does: 2 in each truth of the sheet, 1 in some, 0 in none.
func (k book) does(x order) int {
	kind, _ := fold.Does(k.Sheet, x.flaps())
	return kind
}

// teaches returns the order that workers can be taught: that of none, if the sheet does not fold.
func (k book) teaches() order {
	flaps, _ := fold.Order(k.Sheet)
	return orderOf(flaps)
}

// wrong returns all workers whose accounts cannot be true.
func (k book) wrong() []int {
	var wrong []int
	for worker, w := range k.Workers {
		if !k.account(w).right() {
			wrong = append(wrong, worker)
		}
	}
	return wrong
}

// together returns a number of the truths of all workers, added up, at least and at most. All accounts must be such as can be true.
func (k book) together(what int) api.Span {
	var add func(rest []api.HomeWorker) api.Span
	add = func(rest []api.HomeWorker) api.Span {
		n := len(rest)
		if n == 0 {
			return api.Span{}
		}
		a := k.account(rest[0])
		one, others := a.between(what, a.own), add(rest[1:n:n])
		return api.Span{Low: sum(one.Low, others.Low), High: sum(one.High, others.High)}
	}
	return add(k.Workers)
}

// choice is the first one of the workers of whom a number is the greatest, if it is above 0.
type choice struct {
	worker, most int
	number       func(a *account) int
}

// offer takes a worker, if the number is greater than that of the one before.
func (c *choice) offer(worker int, a *account) {
	if n := c.number(a); n > c.most {
		c.worker, c.most = worker, n
	}
}

// pick returns the first one of the workers of whom a number is the greatest, if it is above 0.
func (k book) pick(number func(a *account) int) (int, api.Errno) {
	c := choice{number: number}
	for worker, w := range k.Workers {
		c.offer(worker, k.account(w))
	}
	if c.most == 0 {
		return 0, api.ErrNone
	}
	return c.worker, api.OK
}
