package home

import (
	"iter"

	"lucifer/api"
)

// came is what came back of a worker.
type came struct{ boxes, torn int }

// account is what is known of a worker of a book.
type account struct {
	book
	api.HomeWorker
	rest map[came]int // of all that can have come back, how many sheets are missing then
}

// account returns what is known of a worker.
func (k book) account(w api.HomeWorker) *account {
	a := account{book: k, HomeWorker: w, rest: map[came]int{}}
boxes:
	for boxes := range all(a.Back) {
		for torn := range all(a.Torn) {
			missing := a.Sheets - sum(boxes, torn)
			if missing < 0 {
				continue boxes
			}
			a.rest[came{boxes: boxes, torn: torn}] = missing
		}
	}
	return &a
}

// right reports whether the account can be true.
func (a *account) right() bool { return len(a.rest) > 0 }

// own returns whether the worker's order does.
func (a *account) own() int { return a.does(orderOf(a.Order)) }

// taught returns whether the order does that the worker is taught.
func (a *account) taught() int { return a.does(a.lesson) }

// passing returns how many of so many boxes pass, at least and at most, by whether their order does.
func passing(boxes, does int) api.Span {
	switch does {
	case 2:
		return api.Span{Low: boxes, High: boxes}
	case 1:
		return api.Span{High: boxes}
	}
	return api.Span{}
}

// truth is how many boxes of a worker pass, and how many sheets are missing, in a truth.
type truth struct {
	*account
	pass, lost int
}

func (t truth) passes() int { return t.pass }

func (t truth) missing() int { return t.lost }

func (t truth) paid() int { return t.Pay*(t.pass/t.Gross) - t.Fine*t.lost }

// What is told of a truth.
const (
	whatPasses = iota
	whatIsMissing
	whatIsPaid
)

// tells tells of a truth what is asked for.
func tells() [3]func(t truth) int {
	return [...]func(t truth) int{
		whatPasses:    truth.passes,
		whatIsMissing: truth.missing,
		whatIsPaid:    truth.paid,
	}
}

// truths produces all truths of an account if the order in which boxes are folded does as is told.
func (a *account) truths(does func() int) iter.Seq[truth] {
	return func(yield func(truth) bool) {
		kind := does()
		// In whichever order: only the least and the greatest number of them all is asked for.
		for x, missing := range a.rest {
			for pass := range all(passing(x.boxes, kind)) {
				if !yield(truth{account: a, pass: pass, lost: missing}) {
					return
				}
			}
		}
	}
}

// between returns a number, at least and at most, of all truths. There must be one.
func (a *account) between(what int, does func() int) api.Span {
	var s api.Span
	some, tell := false, tells()[what]
	for t := range a.truths(does) {
		n := tell(t)
		if !some {
			s, some = api.Span{Low: n, High: n}, true
		}
		s = api.Span{Low: min(s.Low, n), High: max(s.High, n)}
	}
	return s
}

// gain returns how many boxes more pass, at least, if the worker is taught.
func (a *account) gain() int {
	return a.between(whatPasses, a.taught).Low - a.between(whatPasses, a.own).Low
}

// doubt returns how far the ends are apart of what the worker gets.
func (a *account) doubt() int {
	s := a.between(whatIsPaid, a.own)
	return s.High - s.Low
}
