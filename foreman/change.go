package foreman

import (
	"slices"

	"lucifer/api"
	"lucifer/band"
)

// task is a line that a clerk does.
type task struct {
	order
	*state
}

// findKnot changes what is known of a knot.
func (t task) findKnot() {
	number, angle, turn := t.numbers[0], t.numbers[1], t.numbers[2]
	must(has(below(len(t.Log.Knots)), number), api.ErrRange)
	must(has(below(api.PeelAngle), angle) && has(to(0, len(t.Log.Long)), turn), api.ErrRange)
	known := t.Log.Knots[number]
	must(has(known.Angle, angle) && has(known.First, turn), api.ErrForemanFalse)
	t.Log.Knots = replaced(t.Log.Knots, number, api.PeelKnot{Angle: just(angle), First: just(turn)})
}

// right leaves the line if the book of bands cannot be true as it is now.
func (t task) right() { must(told(band.Right(t.bands())), api.ErrForemanFalse) }

// addHand adds a handful.
func (t task) addHand() {
	least, most := t.numbers[0], t.numbers[1]
	must(has(to(least, min(least+api.FillWide, api.FillHand)), most), api.ErrRange)
	must(len(t.Fill.Hands) < api.FillHands, api.ErrFull)
	t.Fill.Hands = with(t.Fill.Hands, to(least, most))
	t.right()
}

// countHand changes what is known of a handful.
func (t task) countHand() {
	number, splints := t.numbers[0], t.numbers[1]
	must(has(below(len(t.Fill.Hands)), number) && has(to(0, api.FillHand), splints), api.ErrRange)
	must(has(t.Fill.Hands[number], splints), api.ErrForemanFalse)
	t.Fill.Hands = replaced(t.Fill.Hands, number, just(splints))
	t.right()
}

// addNote adds a note of bands.
func (t task) addNote() {
	n := api.BandNote{Kind: t.numbers[0], From: t.numbers[1], To: t.numbers[2]}
	must(has(to(api.BandUsed, api.BandLeft), n.Kind) && has(to(1, api.BandNumber), n.From), api.ErrRange)
	must(has(to(n.From, min(n.From+api.BandLong-1, api.BandNumber)), n.To), api.ErrRange)
	must(len(t.notes) < api.BandNotes, api.ErrFull)
	t.notes = with(t.notes, n)
	t.right()
}

// worker returns the number of the worker whose name the line has.
func (t task) worker() int {
	number := slices.Index(t.Names, t.name)
	must(number >= 0, api.ErrForemanUnknown)
	return number
}

// freeWorker changes for how many hours a worker is free.
func (t task) freeWorker() {
	number, hours := t.worker(), t.numbers[0]
	must(has(to(0, api.ShiftHours), hours), api.ErrRange)
	t.free[number] = hours
}

// needHours changes how many hours are needed at a paste.
func (t task) needHours() {
	paste, hours := t.numbers[0], t.numbers[1]
	must(has(below(len(t.Shift.Pastes)), paste) && has(to(0, api.ShiftNeed), hours), api.ErrRange)
	t.needs[paste] = hours
}
