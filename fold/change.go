package fold

import (
	"iter"
	"slices"

	"lucifer/api"
)

// shortened returns a sheet of which a flap reaches so much less far, at most.
func shortened(b api.FoldSheet, flap, less int) api.FoldSheet {
	b.Flaps = slices.Clone(b.Flaps)
	b.Flaps[flap].Reach.High -= less
	return b
}

// without returns the sheet without some rules.
func (s sheet) without(rules []int) sheet {
	var left []api.FoldRule
	for i, r := range s.Rules {
		if !slices.Contains(rules, i) {
			left = append(left, r)
		}
	}
	s.Rules = left
	return s
}

// choices produces all increasing lists of so many of the numbers below an end, in their order.
func choices(end, many int) iter.Seq[[]int] {
	return func(yield func([]int) bool) {
		var add func(list []int, from int) bool
		add = func(list []int, from int) bool {
			if len(list) == many {
				return yield(list)
			}
			for n := from; n < end; n++ {
				if !add(longer(list, n), n+1) {
					return false
				}
			}
			return true
		}
		add(nil, 0)
	}
}

// longer returns a list with one number more, in new memory.
func longer(list []int, number int) []int {
	// The third index lets append copy: other lists begin with the same numbers.
	n := len(list)
	return append(list[:n:n], number)
}
