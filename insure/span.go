package insure

import "lucifer/api"

// within reports whether a number lies between two others.
func within(n, least, most int) bool { return least <= n && n <= most }

// sum returns the sum of several numbers.
func sum[N ~int](numbers ...N) N {
	var all N
	for _, n := range numbers {
		all += n
	}
	return all
}

// together returns the least and the greatest sum of numbers that do not depend on each other.
func together(spans []api.Span) api.Span {
	var low, high []int
	for _, s := range spans {
		low, high = append(low, s.Low), append(high, s.High)
	}
	return api.Span{Low: sum(low...), High: sum(high...)}
}

// once returns how often something is so: once or not at all, by whether it is in each truth (2), in some (1), or in none (0).
func once(kind int) api.Span { return api.Span{Low: kind / 2, High: (kind + 1) / 2} }

// missing returns in which truths there is none of what there is between two numbers: 2 in each, 1 in some, 0 in none.
func missing(n api.Span) int {
	switch {
	case n.High == 0:
		return 2
	case n.Low == 0:
		return 1
	}
	return 0
}

// parts returns so many parts of a number, as equal as can be, greater ones first.
func parts(all, many int) []int {
	var list []int
	for left := many; left > 0; left-- {
		part := (all + left - 1) / left
		list = append(list, part)
		all -= part
	}
	return list
}
