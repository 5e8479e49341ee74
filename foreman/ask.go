package foreman

import (
	"lucifer/band"
	"lucifer/fill"
	"lucifer/peel"
	"lucifer/shift"
)

// What follows are the answers of lines.

// pieces tells how many pieces the best cutting has.
func (t task) pieces() string { return answer(len(told(peel.Best(t.Log)))) }

// best tells the best cutting.
func (t task) best() string { return answer(told(peel.Best(t.Log))...) }

// waste tells how many columns the best cutting leaves.
func (t task) waste() string { return answer(told(peel.Waste(t.Log))) }

// hope tells how many whole pieces can be hoped for.
func (t task) hope() string { return answer(told(peel.Hope(t.Log))) }

// knot tells which knot should be looked for.
func (t task) knot() string { return answer(told(peel.Ask(t.Log))) }

// boxes tells how many boxes the plan has, and how many of them must be filled by hand.
func (t task) boxes() string {
	plan := t.plan()
	return answer(len(plan), len(told(fill.ByHand(t.Fill, plan))))
}

// ends tells the plan: where its boxes end.
func (t task) ends() string { return answer(t.plan()...) }

// byHand tells which boxes of the plan must be filled by hand.
func (t task) byHand() string { return answer(told(fill.ByHand(t.Fill, t.plan()))...) }

// over tells how many splints are given away.
func (t task) over() string { return ofSpan(told(fill.Over(t.Fill, t.plan()))) }

// any tells whether any so many handfuls make a right box.
func (t task) any() string { return whether(told(fill.Any(t.Fill, t.numbers[0]))) }

// hand tells which handful should be counted.
func (t task) hand() string { return answer(told(fill.Ask(t.Fill))) }

// missing tells how many bands are missing.
func (t task) missing() string { return ofSpan(told(band.Missing(t.bands()))) }

// gaps tells the runs of bands that are in no note.
func (t task) gaps() string {
	var numbers []int
	for _, gap := range told(band.Gaps(t.bands())) {
		numbers = append(numbers, gap.First, gap.Many)
	}
	return answer(numbers...)
}

// what tells what a band can be.
func (t task) what() string { return answer(told(band.What(t.bands(), t.numbers[0]))) }

// due tells what is owed.
func (t task) due() string { return ofSpan(told(band.Due(t.bands(), t.numbers[0]))) }

// enough tells whether there is a plan of work.
func (t task) enough() string {
	if t.free == (ofWorkers{}) {
		// Nobody works then, whatever the pastes are: they need not be looked at.
		return whether(t.needs == (atPastes{}))
	}
	return whether(told(shift.Enough(t.work())))
}

// turns tells the best plan of work.
func (t task) turns() string {
	var numbers []int
	for _, turn := range told(shift.Best(t.work())) {
		numbers = append(numbers, turn.Worker, turn.Paste, turn.Hours)
	}
	return answer(numbers...)
}

// short tells for which pastes there are not enough workers.
func (t task) short() string { return answer(told(shift.Short(t.work()))...) }

// spared tells who can be spared.
func (t task) spared() string { return answer(told(shift.Spared(t.work()))...) }

// hire tells how many workers more are needed.
func (t task) hire() string { return answer(told(shift.Hire(t.work()))) }

// allowed tells for how many hours a worker can work at a paste.
func (t task) allowed() string {
	worker := t.worker()
	return answer(told(shift.Allowed(t.work(), worker, t.numbers[0])))
}
