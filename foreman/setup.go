package foreman

import (
	"strings"

	"lucifer/api"
	"lucifer/band"
	"lucifer/fill"
	"lucifer/peel"
	"lucifer/shift"
)

const (
	letters = "abcdefghijklmnopqrstuvwxyz"
	digits  = "0123456789"
)

// valid reports whether a setup is valid.
func valid(s api.ForemanSetup) bool {
	bands := api.BandBook{Rolls: s.Rolls, Fill: s.Fill}
	for _, e := range [...]api.Errno{peel.Check(s.Log), fill.Check(s.Fill), band.Check(bands), shift.Check(s.Shift)} {
		if e != api.OK {
			return false
		}
	}
	return len(s.Fill.Hands) == 0 && len(s.Names) == len(s.Shift.Workers) && named(s.Names)
}

// named reports whether all workers have names, no two of them the same.
func named(names []string) bool {
	known := map[string]bool{}
	for worker := range len(names) {
		name := names[worker]
		if !isName(name) || known[name] {
			return false
		}
		known[name] = true
	}
	return true
}

// only reports whether a text has none but some characters.
func only(text, characters string) bool { return strings.Trim(text, characters) == "" }

// isName reports whether a text is a name.
func isName(text string) bool {
	return has(to(1, api.MaxName), len(text)) && only(text, letters+digits) && only(text[:1], letters)
}

// own returns a setup that shares no list with the given one.
func own(s api.ForemanSetup) api.ForemanSetup {
	s.Log.Long, s.Log.Knots = copied(s.Log.Long), copied(s.Log.Knots)
	s.Fill.Hands = copied(s.Fill.Hands)
	s.Rolls, s.Names = copied(s.Rolls), copied(s.Names)
	w := &s.Shift
	w.Pastes, w.Workers, w.Table = copied(w.Pastes), copied(w.Workers), copied(w.Table)
	for paste := range w.Pastes {
		b := &w.Pastes[paste].Book
		b.Salts, b.Pairs = copied(b.Salts), copied(b.Pairs)
		b.Surfaces, b.Trials = copied(b.Surfaces), copied(b.Trials)
	}
	return s
}
