package fold

import "lucifer/api"

// area is the squares of some columns and rows.
type area struct{ columns, rows api.Span }

// meets reports whether some square is in both areas.
func (a area) meets(b area) bool {
	return common(a.columns, b.columns) && common(a.rows, b.rows)
}

// common reports whether some number is in both spans.
func common(s, t api.Span) bool { return s.Low <= t.High && t.Low <= s.High }

// within reports whether a span is in order, and lies between two numbers.
func within(s api.Span, least, most int) bool {
	return least <= s.Low && s.Low <= s.High && s.High <= most
}

// near returns so many columns or rows from number 0 on.
func near(many int) api.Span { return api.Span{High: many - 1} }

// far returns so many columns or rows, up to the last one of all.
func far(many, all int) api.Span { return api.Span{Low: all - many, High: all - 1} }

// flap is a flap, with how wide and high the bottom is that it is folded over.
type flap struct {
	api.FoldFlap
	wide, high int
}

func (f flap) left(reach int) area { return area{columns: near(reach), rows: f.Along} }

func (f flap) right(reach int) area { return area{columns: far(reach, f.wide), rows: f.Along} }

func (f flap) top(reach int) area { return area{columns: f.Along, rows: near(reach)} }

func (f flap) bottom(reach int) area { return area{columns: f.Along, rows: far(reach, f.high)} }

// sides tells what a flap on each side covers if it reaches so far.
func sides() [4]func(f flap, reach int) area {
	return [...]func(f flap, reach int) area{
		api.FoldLeft:   flap.left,
		api.FoldRight:  flap.right,
		api.FoldTop:    flap.top,
		api.FoldBottom: flap.bottom,
	}
}

// covers returns what the flap, whose side there is, covers if it reaches so far.
func (f flap) covers(reach int) area { return sides()[f.Side](f, reach) }

// valid reports whether a sheet can have the flap.
func (f flap) valid() bool {
	if f.Side < 0 || f.Side >= len(sides()) || !within(f.Reach, 1, api.FoldSide) {
		return false
	}
	// It neither reaches nor lies too far just if it covers no square beside the bottom.
	most := f.covers(f.Reach.High)
	return within(most.columns, 0, f.wide-1) && within(most.rows, 0, f.high-1)
}
