package foreman

import "lucifer/api"

// copied returns a copy of a list.
func copied[T any](list []T) []T {
	c := append([]T(nil), list...)
	n := len(c)
	return c[:n:n]
}

// with returns a list with one more element.
func with[T any](list []T, more T) []T {
	// The third index lets append copy: another state has the same list.
	n := len(list)
	return append(list[:n:n], more)
}

// replaced returns a list with another element at a place.
func replaced[T any](list []T, at int, by T) []T {
	c := copied(list)
	c[at] = by
	return c
}

// to returns the span from a number to another one, which has none if they are not in order.
func to(low, high int) api.Span { return api.Span{Low: low, High: high} }

// below returns the span of the numbers of so many things.
func below(many int) api.Span { return to(0, many-1) }

// just returns the span of one number alone.
func just(n int) api.Span { return to(n, n) }

// has reports whether a number lies in a span: the span does not become wider by it then.
func has(s api.Span, n int) bool { return to(min(s.Low, n), max(s.High, n)) == s }
