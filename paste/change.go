package paste

import (
	"iter"
	"slices"

	"lucifer/api"
)

// without returns a book with a pair less.
func without(b api.PasteBook, pair int) api.PasteBook {
	// The third index lets append copy: the pairs are the caller's.
	b.Pairs = append(b.Pairs[:pair:pair], b.Pairs[pair+1:]...)
	return b
}

// lessened returns a book with less of a salt, at most.
func lessened(b api.PasteBook, salt, less int) api.PasteBook {
	b.Salts = slices.Clone(b.Salts)
	b.Salts[salt].Amount.High -= less
	return b
}

// others returns the trials but those of a list.
func others(trials []api.PasteTrial, wrong []int) []api.PasteTrial {
	var left []api.PasteTrial
	for i, t := range trials {
		if !slices.Contains(wrong, i) {
			left = append(left, t)
		}
	}
	return left
}

// choices produces all increasing lists of so many of the numbers below an end, in their order.
func choices(end, many int) iter.Seq[[]int] {
	return func(yield func([]int) bool) {
		list := make([]int, 0, many)
		var add func(from int) bool
		add = func(from int) bool {
			if len(list) == many {
				return yield(slices.Clone(list))
			}
			for n := from; n < end; n++ {
				list = append(list, n)
				if !add(n + 1) {
					return false
				}
				list = list[:len(list)-1]
			}
			return true
		}
		add(0)
	}
}
