package foreman

import (
	"strings"

	"lucifer/api"
	"lucifer/fill"
)

// ofWorkers is the hours of each worker.
type ofWorkers [api.ShiftWorkers]int

// atPastes is the hours of each paste.
type atPastes [api.ShiftPastes]int

// state is what a clerk has. The Log of the setup is as far known as knots were found since, and its Fill has all handfuls.
type state struct {
	api.ForemanSetup
	notes   []api.BandNote
	free    ofWorkers
	needs   atPastes
	journal []string
}

// begin returns the state of a new clerk.
func begin(s api.ForemanSetup) state {
	k := state{ForemanSetup: own(s)}
	for worker := range len(k.Shift.Workers) {
		k.free[worker] = k.Shift.Workers[worker].Free
	}
	for paste, p := range k.Shift.Pastes {
		k.needs[paste] = p.Hours
	}
	return k
}

// plan returns the plan of the boxes.
func (k *state) plan() []int { return told(fill.Best(k.Fill)) }

// bands returns the book of bands.
func (k *state) bands() api.BandBook {
	return api.BandBook{Rolls: k.Rolls, Notes: k.notes, Fill: k.Fill, Plan: k.plan()}
}

// work returns the book of work.
func (k *state) work() api.ShiftBook {
	b := k.Shift
	b.Workers, b.Pastes = copied(b.Workers), copied(b.Pastes)
	for worker := range len(b.Workers) {
		b.Workers[worker].Free = k.free[worker]
	}
	for paste := range b.Pastes {
		b.Pastes[paste].Hours = k.needs[paste]
	}
	return b
}

// do does a line, and returns its answer. It is left by a panic with the first error of the line.
func (k *state) do(line string) string {
	o, is := acts().read(line)
	must(is, api.ErrForemanLine)
	t := task{order: o, state: k}
	if o.change != nil {
		must(len(k.journal) < api.ForemanJournal, api.ErrFull)
		o.change(t)
		// A line of a file must not keep the whole file.
		k.journal = with(k.journal, strings.Clone(line))
	}
	return o.layer(t)
}

// must leaves a line with an error, unless something is so.
func must(is bool, e api.Errno) {
	if !is {
		panic(e)
	}
}

// told returns what a layer tells, or leaves the line with the error of the layer.
func told[T any](x T, e api.Errno) T {
	switch e {
	case api.OK:
		return x
	case api.ErrFillAsk, api.ErrBandAsk, api.ErrShiftAsk:
		panic(api.ErrRange) // a layer was asked for a number that it does not have
	}
	panic(e)
}
