package home

import (
	"iter"

	"lucifer/api"
)

// within reports whether a number lies between two others.
func within(n, least, most int) bool { return least <= n && n <= most }

// sum returns the sum of several numbers.
func sum[N ~int](numbers ...N) N {
	var all N
	for _, n := range numbers {
		all += n
	}
	return all
}

// all produces all numbers of a span.
func all(s api.Span) iter.Seq[int] {
	return func(yield func(int) bool) {
		for more := range s.High - s.Low + 1 {
			if !yield(s.Low + more) {
				return
			}
		}
	}
}

// counted reports whether a span can be what is known of boxes, or of torn sheets, that came back.
func counted(s api.Span) bool {
	return within(s.Low, 0, api.HomeSheets) && within(s.High, s.Low, min(s.Low+api.HomeSpan, api.HomeSheets))
}
