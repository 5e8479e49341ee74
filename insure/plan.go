package insure

import (
	"iter"

	"lucifer/api"
	"lucifer/tunnel"
)

// plan is a plan of a book.
type plan struct {
	book
	choice lots
	set    setting
}

// plan returns a plan for the calculation. It must be one of the book.
func (k book) plan(p api.InsurePlan) plan {
	return plan{book: k, choice: lotsOf(p.Choice), set: settingOf(p.Set)}
}

// goods returns how many goods there are.
func (p plan) goods() api.Span {
	var rooms []api.Span
	for lot := range p.choice.each() {
		rooms = append(rooms, p.Yard.Lots[lot].Room)
	}
	return together(rooms)
}

// near returns how many pairs of lots are too near to each other.
func (p plan) near() api.Span {
	var counts []api.Span
	for other := range p.choice.each() {
		for one := range other {
			if p.choice[one] {
				counts = append(counts, once(p.tooNear[pairOf(one, other)]))
			}
		}
	}
	return together(counts)
}

// unserved returns how many lots are not served.
func (p plan) unserved() api.Span {
	var counts []api.Span
	for lot := range p.choice.each() {
		counts = append(counts, once(2-p.served[lot]))
	}
	return together(counts)
}

// heat returns how many units of heat there are.
func (p plan) heat() api.Span {
	heat, _ := tunnel.Heat(p.Tunnel, p.set.list(len(p.Tunnel.Parts)))
	return api.Span{Low: heat, High: heat}
}

// undried returns how many frames are not dry in time.
func (p plan) undried() api.Span {
	// Not frame by frame: the damp is the same for all of them.
	s := api.Span{Low: len(p.Tunnel.Frames)}
	for h := range p.dryness(p.set) {
		n := p.spoiled(h)
		s = api.Span{Low: min(s.Low, n), High: max(s.High, n)}
	}
	return s
}

// cause is something for which the insurer asks.
type cause struct {
	rate  int
	fault bool // a plan that fits has none of it
	count func(p plan) api.Span
}

// causes tells of all causes of a premium.
func (k book) causes() [5]cause {
	r := k.Rates
	return [...]cause{
		{rate: r.Good, count: plan.goods},
		{rate: r.Near, count: plan.near, fault: true},
		{rate: r.Served, count: plan.unserved, fault: true},
		{rate: r.Heat, count: plan.heat},
		{rate: r.Frame, count: plan.undried, fault: true},
	}
}

// premium returns the premium of the plan.
func (p plan) premium() api.Span {
	var asked []api.Span
	for _, c := range p.causes() {
		n := c.count(p)
		asked = append(asked, api.Span{Low: c.rate * n.Low, High: c.rate * n.High})
	}
	return together(asked)
}

// fits returns in which truths the plan is as the insurer wants it: 2 in each, 1 in some, 0 in none.
func (p plan) fits() int {
	kind := 2
	for _, c := range p.causes() {
		if c.fault {
			// No fault depends on another one: those that need not be are all missing in some truth.
			kind = min(kind, missing(c.count(p)))
		}
	}
	return kind
}

// plans produces the plans of all choices by one setting, in the order of the choices.
func (k book) plans(s setting) iter.Seq[plan] {
	return func(yield func(p plan) bool) {
		for c := range choices(len(k.Yard.Lots)) {
			if !yield(plan{book: k, choice: c, set: s}) {
				return
			}
		}
	}
}

// bucket returns the first spare spot at which one more bucket lets the premium be the least at most, and whether one lets it be less.
func (p plan) bucket() (int, bool) {
	least := p.premium().High
	place, some := 0, false
	for spare, at := range p.Yard.Spare {
		more := p
		more.book = p.withBucket(at)
		if asked := more.premium().High; asked < least {
			least, place, some = asked, spare, true
		}
	}
	return place, some
}
