package shift

import "iter"

// within reports whether a number lies between two others.
func within(n, least, most int) bool { return least <= n && n <= most }

// least returns the least of several numbers.
func least[N ~int](numbers ...N) N {
	var lowest N
	for i, n := range numbers {
		if i == 0 || n < lowest {
			lowest = n
		}
	}
	return lowest
}

// lists produces all lists of some of the elements of a list, in their order.
func lists[T any](of []T) iter.Seq[[]T] {
	return func(yield func([]T) bool) {
		var add func(list, rest []T) bool
		add = func(list, rest []T) bool {
			if !yield(list) {
				return false
			}
			for i, next := range rest {
				// The third index lets append copy: other lists begin with the same elements.
				if !add(append(list[:len(list):len(list)], next), rest[i+1:]) {
					return false
				}
			}
			return true
		}
		add(nil, of)
	}
}

// shorter reports whether one list has fewer elements than another one.
func shorter[T any](one, other []T) bool { return len(one) < len(other) }
