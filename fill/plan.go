package fill

import (
	"iter"

	"lucifer/api"
)

// hands tells of each handful whether something is so.
type hands [api.FillHands]bool

// all tells of all handfuls that it is so.
func (b book) all() hands {
	var all hands
	for number := range len(b.Hands) {
		all[number] = true
	}
	return all
}

// longer returns a list with one number more, in new memory.
func longer(list []int, number int) []int {
	// The third index lets append copy: other lists begin with the same numbers.
	n := len(list)
	return append(list[:n:n], number)
}

// plans produces all plans, in their order.
func (b book) plans() iter.Seq[[]int] {
	return func(yield func([]int) bool) {
		var cut func(plan []int, from int, left hands) bool
		cut = func(plan []int, from int, left hands) bool {
			if left == (hands{}) {
				return yield(plan)
			}
			for to := from + 1; b.isBox(box{from: from, to: to}); to++ {
				left[to-1] = false
				if !cut(longer(plan, to), to, left) {
					return false
				}
			}
			return true
		}
		cut(nil, 0, b.all())
	}
}

// isBox reports whether there can be a box.
func (b book) isBox(x box) bool {
	_, is := b.sums[x]
	return is
}

// boxes produces all boxes of a plan, with their numbers.
func boxes(plan []int) iter.Seq2[int, box] {
	return func(yield func(int, box) bool) {
		from := 0
		for number, to := range plan {
			if !yield(number, box{from: from, to: to}) {
				return
			}
			from = to
		}
	}
}

// isPlan reports whether a list is a plan.
func (b book) isPlan(list []int) bool {
	end := 0
	for _, x := range boxes(list) {
		if !b.isBox(x) {
			return false
		}
		end = x.to
	}
	return end == len(b.Hands)
}

// outcome is a plan, with what becomes of its boxes.
type outcome struct {
	plan   []int
	right  []api.Span // how many splints each box has that surely is right
	byHand []int      // the boxes that must be filled by hand
}

// by returns what becomes of the boxes of a plan.
func (b book) by(plan []int) outcome {
	o := outcome{plan: plan}
boxes:
	for number, x := range boxes(plan) {
		splints := b.sums[x]
		for _, wrong := range [...]func(api.Span) bool{b.few, b.many} {
			if wrong(splints) {
				o.byHand = append(o.byHand, number)
				continue boxes
			}
		}
		o.right = append(o.right, splints)
	}
	return o
}

// quicker reports whether of one plan fewer boxes must be filled by hand than of another one, or as many of more boxes.
func quicker(one, other outcome) bool {
	if len(one.byHand) != len(other.byHand) {
		return len(one.byHand) < len(other.byHand)
	}
	return len(one.plan) > len(other.plan)
}

// surer reports whether of one plan more boxes surely are right than of another one.
func surer(one, other outcome) bool { return len(one.right) > len(other.right) }

// choice is the best one of the plans so far.
type choice struct {
	outcome
	some   bool
	better func(one, other outcome) bool
}

// offer takes a plan that is better than the best one so far.
func (c *choice) offer(o outcome) {
	if !c.some || c.better(o, c.outcome) {
		c.outcome, c.some = o, true
	}
}

// best returns the first plan than which no other one is better.
func (b book) best(better func(one, other outcome) bool) outcome {
	best := choice{better: better}
	for plan := range b.plans() {
		best.offer(b.by(plan))
	}
	return best.outcome
}

// worst returns how many boxes of the best plan must be filled by hand, at the worst, once a handful is counted.
func worst(b api.FillBook, number int) int {
	most := 0
	for splints := b.Hands[number].Low; splints <= b.Hands[number].High; splints++ {
		best := open(counted(b, number, splints)).best(quicker)
		most = max(most, len(best.byHand))
	}
	return most
}
