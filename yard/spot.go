package yard

import "lucifer/api"

// within reports whether a number lies between two others.
func within(n, least, most int) bool { return least <= n && n <= most }

// isSpot reports whether a yard can have the spot.
func isSpot(at api.YardSpot) bool {
	return within(at.X, 0, api.YardSide) && within(at.Y, 0, api.YardSide)
}

// way is two spots.
type way struct{ from, to api.YardSpot }

// told returns the told distance of the two spots.
func (w way) told() int { return differ(w.from.X, w.to.X) + differ(w.from.Y, w.to.Y) }

// differ returns by how much two numbers differ.
func differ(one, other int) int { return max(one-other, other-one) }

// around returns between what lies a true distance, if the told one may be wrong by so much.
func around(told, wrong int) api.Span {
	return api.Span{Low: max(0, told-wrong), High: told + wrong}
}
