package fill_test

import (
	"math/bits"
	"math/rand"
	"slices"

	"lucifer/api"
)

// What follows computes from the definitions alone, by trying out everything: the tests hold the package against it.

// allTruths returns of each truth the number in each of some handfuls.
func allTruths(hands []api.Span) [][]int {
	all := [][]int{nil}
	for _, h := range hands {
		var next [][]int
		for _, before := range all {
			for n := h.Low; n <= h.High; n++ {
				next = append(next, append(slices.Clone(before), n))
			}
		}
		all = next
	}
	return all
}

func total(numbers []int) int {
	all := 0
	for _, n := range numbers {
		all += n
	}
	return all
}

// totals returns how many splints some handfuls have together in the truths.
func totals(hands []api.Span) []int {
	var all []int
	for _, truth := range allTruths(hands) {
		all = append(all, total(truth))
	}
	return all
}

func sumOf(hands []api.Span) api.Span {
	all := totals(hands)
	return to(slices.Min(all), slices.Max(all))
}

func tooFew(b api.FillBook, n int) bool { return n < b.Promise-b.Less }

func tooMany(b api.FillBook, n int) bool { return n > b.Promise+b.More }

func kindOf(b api.FillBook, hands []api.Span) int {
	few, many := false, false
	for _, n := range totals(hands) {
		few = few || tooFew(b, n)
		many = many || tooMany(b, n)
	}
	switch {
	case few && many:
		return api.FillBoth
	case few:
		return api.FillFew
	case many:
		return api.FillMany
	}
	return api.FillRight
}

// chosen returns all choices of so many of the handfuls.
func chosen(hands []api.Span, many int) [][]api.Span {
	var all [][]api.Span
	for set := range 1 << len(hands) {
		if bits.OnesCount(uint(set)) != many {
			continue
		}
		var list []api.Span
		for i, h := range hands {
			if set>>i&1 == 1 {
				list = append(list, h)
			}
		}
		all = append(all, list)
	}
	return all
}

func anyOf(b api.FillBook, many int) bool {
	return !slices.ContainsFunc(chosen(b.Hands, many), func(hands []api.Span) bool { return kindOf(b, hands) != api.FillRight })
}

// allPlans returns all plans of a book, in their order.
func allPlans(b api.FillBook) [][]int {
	n := len(b.Hands)
	if n == 0 {
		return [][]int{nil}
	}
	var all [][]int
	for set := range 1 << (n - 1) { // a box ends before each of the handfuls of the set, and behind the last handful
		var plan []int
		from, is := 0, true
		for end := 1; end <= n; end++ {
			if end < n && set>>(end-1)&1 == 0 {
				continue
			}
			plan = append(plan, end)
			is = is && end-from <= b.Group
			from = end
		}
		if is {
			all = append(all, plan)
		}
	}
	slices.SortFunc(all, slices.Compare)
	return all
}

// parts returns the handfuls of each box of a plan.
func parts[T any](hands []T, plan []int) [][]T {
	var all [][]T
	from := 0
	for _, end := range plan {
		all = append(all, hands[from:end])
		from = end
	}
	return all
}

func byHandOf(b api.FillBook, plan []int) []int {
	var byHand []int
	for i, hands := range parts(b.Hands, plan) {
		if kindOf(b, hands) != api.FillRight {
			byHand = append(byHand, i)
		}
	}
	return byHand
}

// overIn returns how many splints more than promised there are in a truth, in all boxes that are not to be filled by hand.
func overIn(b api.FillBook, truth, plan, byHand []int) int {
	over := 0
	for i, numbers := range parts(truth, plan) {
		if !slices.Contains(byHand, i) {
			over += total(numbers) - b.Promise
		}
	}
	return over
}

func overOf(b api.FillBook, plan []int) api.Span {
	byHand := byHandOf(b, plan)
	var all []int
	for _, truth := range allTruths(b.Hands) {
		all = append(all, overIn(b, truth, plan, byHand))
	}
	return to(slices.Min(all), slices.Max(all))
}

// filled is a plan with the number of its boxes that must be filled by hand.
type filled struct {
	plan   []int
	byHand int
}

// allFilled returns what is so of all plans of a book, in their order.
func allFilled(b api.FillBook) []filled {
	var all []filled
	for _, plan := range allPlans(b) {
		all = append(all, filled{plan, len(byHandOf(b, plan))})
	}
	return all
}

func bestOf(b api.FillBook) filled {
	return slices.MinFunc(allFilled(b), func(a, b filled) int {
		if a.byHand != b.byHand {
			return a.byHand - b.byHand
		}
		return len(b.plan) - len(a.plan)
	})
}

func boxesOf(b api.FillBook) int {
	most := 0
	for _, f := range allFilled(b) {
		most = max(most, len(f.plan)-f.byHand)
	}
	return most
}

// worstOf returns of each handful how many boxes must be filled by hand at the worst, once it is counted.
func worstOf(b api.FillBook) []int {
	var worst []int
	for i, h := range b.Hands {
		most := 0
		for n := h.Low; n <= h.High; n++ {
			most = max(most, bestOf(knowing(b, i, one(n))).byHand)
		}
		worst = append(worst, most)
	}
	return worst
}

func askOf(b api.FillBook) (int, api.Errno) {
	if len(b.Hands) == 0 {
		return 0, api.ErrNone
	}
	worst := worstOf(b)
	return slices.Index(worst, slices.Min(worst)), api.OK
}

// someHand returns a handful of about so many splints, its ends at most so far apart.
func someHand(r *rand.Rand, about, wide int) api.Span {
	low := max(0, min(about+r.Intn(5)-2-wide/2, api.FillHand-wide))
	return to(low, low+r.Intn(wide+1))
}

// someBook returns a valid book of so many handfuls, of which one, or a few, can mostly be a box.
func someBook(r *rand.Rand, hands, wide int) api.FillBook {
	promise := 10 + r.Intn(60)
	within := 1 + r.Intn(8)
	b := label(promise, r.Intn(within), r.Intn(within), 1+r.Intn(4))
	for range hands {
		about := promise / (1 + r.Intn(3))
		switch r.Intn(6) {
		case 0:
			about = r.Intn(5)
		case 1:
			about = promise - promise/3
		}
		b.Hands = append(b.Hands, someHand(r, about, wide))
	}
	return b
}

// evenBook returns a valid book of boxes of which each has about so many handfuls, all alike.
func evenBook(r *rand.Rand, hands, each int) api.FillBook {
	about := 5 + r.Intn(40)
	b := label(about*each, r.Intn(min(about, 6)), r.Intn(6), each)
	for range hands {
		b.Hands = append(b.Hands, someHand(r, about, 1))
	}
	return b
}

// someBooks returns the same books at each call: of up to so many handfuls, their ends at most so far apart.
func someBooks(n, hands, wide int) []api.FillBook {
	r := rand.New(rand.NewSource(1))
	var books []api.FillBook
	for i := range n {
		books = append(books, someBook(r, i%(hands+1), r.Intn(wide+1)))
	}
	return books
}

// somePlan returns a plan of a book.
func somePlan(r *rand.Rand, b api.FillBook) []int {
	all := allPlans(b)
	return all[r.Intn(len(all))]
}
