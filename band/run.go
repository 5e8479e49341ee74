package band

import "lucifer/api"

// within reports whether a number lies between two others.
func within(n, least, most int) bool { return least <= n && n <= most }

// sum returns the sum of several numbers.
func sum[N ~int](numbers ...N) N {
	var all N
	for _, n := range numbers {
		all += n
	}
	return all
}

// run is numbers that come one after the other: all those of a roll, of a note, or of a gap.
type run struct{ api.BandRoll }

// through returns the run from a number to another one.
func through(first, last int) run { return run{api.BandRoll{First: first, Many: last - first + 1}} }

// last returns the last number.
func (x run) last() int { return x.First + x.Many - 1 }

// has reports whether a number is one of the run.
func (x run) has(number int) bool { return within(number, x.First, x.last()) }

// common returns the numbers that two runs have in common.
func (x run) common(y run) run {
	first, last := max(x.First, y.First), min(x.last(), y.last())
	if first > last {
		return run{}
	}
	return through(first, last)
}
