package insure

import (
	"math"

	"lucifer/api"
)

// offer is a plan, with what decides whether it is better than another one.
type offer struct {
	plan
	has  int // goods, at least
	asks int // the premium, at most
}

// offer returns the plan with what decides whether it is better than another one.
func (p plan) offer() offer {
	return offer{plan: p, has: p.goods().Low, asks: p.premium().High}
}

// cheaper reports whether less is asked for one plan than for another one.
func cheaper(one, other offer) bool { return one.asks < other.asks }

// fuller reports whether one plan has more goods than another one, or as many for which less is asked.
func fuller(one, other offer) bool {
	if one.has != other.has {
		return one.has > other.has
	}
	return cheaper(one, other)
}

// search is for the first one of the best plans that have the goods that are wanted, and can be paid.
type search struct {
	want, pay int
	better    func(one, other offer) bool
	best      offer
	some      bool
}

// take takes a plan that can be paid, if it is better than the best one so far.
func (s *search) take(o offer) {
	if o.asks <= s.pay && (!s.some || s.better(o, s.best)) {
		s.best, s.some = o, true
	}
}

// calmest returns the first one of the settings for which the least is asked at most.
func (k book) calmest() setting {
	s := search{pay: math.MaxInt, better: cheaper}
	for set := range settings(len(k.Tunnel.Parts)) {
		s.take(plan{book: k, set: set}.offer())
	}
	return s.best.set
}

// pick returns the plan that is searched for.
func (k book) pick(s search) (api.InsurePlan, api.Errno) {
	// No truth of the tunnel depends on one of the yard: what is asked for a setting is the same with each choice.
	set := k.calmest()
plans:
	for p := range k.plans(set) {
		o := p.offer()
		if o.has < s.want {
			continue plans
		}
		s.take(o)
	}
	if !s.some {
		return api.InsurePlan{}, api.ErrNone
	}
	best := s.best
	return api.InsurePlan{Choice: best.choice.list(), Set: best.set.list(len(k.Tunnel.Parts))}, api.OK
}
