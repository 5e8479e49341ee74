package tunnel_test

import (
	"math"
	"slices"
	"testing"

	"lucifer/api"
	"lucifer/tunnel"
)

func to(low, high int) api.Span { return api.Span{Low: low, High: high} }

func one(n int) api.Span { return to(n, n) }

func part(damp api.Span, heat ...int) api.TunnelPart {
	return api.TunnelPart{Heat: [4]int(heat), Damp: damp}
}

func frame(need api.Span, stay ...int) api.TunnelFrame {
	return api.TunnelFrame{Stay: stay, Need: need}
}

func withParts(b api.TunnelBook, parts ...api.TunnelPart) api.TunnelBook {
	b.Parts = parts
	return b
}

func withFrames(b api.TunnelBook, frames ...api.TunnelFrame) api.TunnelBook {
	b.Frames = frames
	return b
}

// example is the book of the chapter's examples.
func example() api.TunnelBook {
	return api.TunnelBook{
		Parts:  []api.TunnelPart{part(to(0, 1), 1, 3, 5, 8), part(to(1, 2), 0, 2, 6, 9)},
		Frames: []api.TunnelFrame{frame(to(20, 45), 5, 4), frame(to(18, 50), 3, 6), frame(to(30, 60), 10, 2)},
	}
}

// needing is the example in which a frame needs something else.
func needing(f, low, high int) api.TunnelBook {
	b := example()
	b.Frames[f].Need = to(low, high)
	return b
}

func torn() api.TunnelBook { return needing(1, 18, 25) }

func lost() api.TunnelBook {
	return withFrames(example(), append(example().Frames, frame(to(0, 5), 20, 20))...)
}

func small() api.TunnelBook {
	return plain(part(one(0), 0, 1, 2, 3), part(to(0, 1), 0, 1, 2, 3))(frame(one(10), 1, 10))
}

// plain is a book of some parts, and of the frames that it is called with.
func plain(parts ...api.TunnelPart) func(frames ...api.TunnelFrame) api.TunnelBook {
	return func(frames ...api.TunnelFrame) api.TunnelBook {
		return api.TunnelBook{Parts: parts, Frames: frames}
	}
}

func steps() api.TunnelPart { return part(one(0), 0, 1, 2, 3) }

// pairwise is a book whose frames are dry in time two by two, but not all together: by 0 3 the frames 0 and 2 are.
func pairwise() api.TunnelBook {
	return plain(steps(), steps())(frame(one(3), 1, 1), frame(to(2, 9), 1, 0), frame(to(2, 9), 0, 1))
}

func wrongBooks() map[string]api.TunnelBook {
	b, f := example(), frame(to(0, 9), 1, 1)
	p := func(damp api.Span, heat ...int) api.TunnelBook {
		return withParts(b, part(one(0), 1, 3, 5, 8), part(damp, heat...))
	}
	g := func(need api.Span, stay ...int) api.TunnelBook { return withFrames(b, f, f, frame(need, stay...)) }
	return map[string]api.TunnelBook{
		"nothing":               {},
		"no parts":              withParts(b),
		"no parts, no stay":     withParts(withFrames(b, frame(one(0)))),
		"5 parts":               {Parts: make([]api.TunnelPart, 5)},
		"a heat below 0":        p(one(0), -1, 0, 1, 2),
		"a heat of 21":          p(one(0), 0, 1, 2, 21),
		"a huge heat":           p(one(0), 0, 1, 2, math.MaxInt),
		"a hugely negative one": p(one(0), math.MinInt, 1, 2, 3),
		"less heat in 1":        p(one(0), 1, 0, 1, 2),
		"less heat in 2":        p(one(0), 0, 5, 4, 6),
		"less heat in 3":        p(one(0), 0, 5, 6, 5),
		"less heat in part 0":   withParts(b, part(one(0), 0, 0, 2, 1), part(one(0), 0, 1, 2, 3)),
		"damp reversed":         p(to(3, 2), 0, 1, 2, 3),
		"damp below 0":          p(to(-1, 0), 0, 1, 2, 3),
		"damp of 21":            p(to(20, 21), 0, 1, 2, 3),
		"damp 4 wide":           p(to(3, 7), 0, 1, 2, 3),
		"damp huge":             p(to(math.MinInt, math.MaxInt), 0, 1, 2, 3),
		"damp hugely back":      p(to(math.MaxInt, math.MinInt), 0, 1, 2, 3),
		"damp beyond all":       p(one(math.MaxInt), 0, 1, 2, 3),
		"6 frames":              withFrames(b, f, f, f, f, f, f),
		"no stay":               g(to(0, 9)),
		"a stay less":           g(to(0, 9), 1),
		"a stay more":           g(to(0, 9), 1, 1, 1),
		"a stay below 0":        g(to(0, 9), 1, -1),
		"a stay of 21":          g(to(0, 9), 21, 1),
		"a huge stay":           g(to(0, 9), 1, math.MaxInt),
		"need reversed":         g(to(9, 8), 1, 1),
		"need below 0":          g(to(-1, 9), 1, 1),
		"need of 1000":          g(to(0, 1000), 1, 1),
		"need huge":             g(to(math.MinInt, math.MaxInt), 1, 1),
		"need hugely back":      g(to(math.MaxInt, math.MinInt), 1, 1),
		"frame 0 is so":         withFrames(b, frame(to(0, 9), 1), f),
		"a part less":           withParts(b, b.Parts[0]),
		"a part more":           withParts(b, b.Parts[0], b.Parts[1], b.Parts[1]),
	}
}

func rightBooks() map[string]api.TunnelBook {
	top := part(to(17, 20), 20, 20, 20, 20)
	f := frame(to(0, 999), 20, 20, 20, 20)
	return map[string]api.TunnelBook{
		"the example":  example(),
		"the least":    {Parts: make([]api.TunnelPart, 1)},
		"empty frames": {Parts: make([]api.TunnelPart, 1), Frames: []api.TunnelFrame{}},
		"the most":     plain(top, top, top, top)(f, f, f, f, f),
		"least stay":   plain(part(to(0, 3), 0, 0, 0, 0))(frame(one(0), 0)),
		"need 999":     plain(part(one(20), 0, 0, 0, 20))(frame(one(999), 20)),
	}
}

type outcome struct {
	e    api.Errno
	zero bool // all other results are zero
}

// allErrors calls each function, with the book and what else it takes.
func allErrors(b api.TunnelBook, set []int, frame, part int) map[string]outcome {
	got := map[string]outcome{"Check": {tunnel.Check(b), true}}
	number := func(name string, n int, e api.Errno) { got[name] = outcome{e, n == 0} }
	list := func(name string, l []int, e api.Errno) { got[name] = outcome{e, len(l) == 0} }
	s, e := tunnel.Dries(b, set, frame)
	got["Dries"] = outcome{e, s == api.Span{}}
	n, e := tunnel.Kind(b, set, frame)
	number("Kind", n, e)
	n, e = tunnel.Heat(b, set)
	number("Heat", n, e)
	l, e := tunnel.Good(b, set)
	list("Good", l, e)
	l, e = tunnel.Best(b)
	list("Best", l, e)
	l, m, e := tunnel.Most(b)
	list("Most", append(slices.Clone(l), m...), e)
	l, e = tunnel.Lost(b)
	list("Lost", l, e)
	n, o, e := tunnel.Clash(b)
	got["Clash"] = outcome{e, n == 0 && o == 0}
	n, e = tunnel.Longer(b, set, frame, part)
	number("Longer", n, e)
	n, e = tunnel.Ask(b)
	number("Ask", n, e)
	return got
}

// TestCheck is of P3.1 and, of the order of errors, P1.
func TestCheck(t *testing.T) {
	for name, b := range rightBooks() {
		for call, got := range allErrors(b, make([]int, len(b.Parts)), 0, 0) {
			if got.e == api.ErrTunnel {
				t.Errorf("%s of %s: %d", call, name, got.e)
			}
		}
	}
	for name, b := range wrongBooks() {
		for call, got := range allErrors(b, nil, -1, -1) {
			if got.e != api.ErrTunnel || !got.zero {
				t.Errorf("%s of %s: %v", call, name, got)
			}
		}
	}
}

// TestWrongSettings is of the errors of P3.1 to P3.3, and of P3.7.
func TestWrongSettings(t *testing.T) {
	for _, set := range [][]int{nil, {}, {2}, {2, 2, 2}, {4, 0}, {0, 4}, {-1, 0}, {0, -1}, {0, math.MaxInt}, {math.MinInt, 0}, {0, 0, 0, 0}, make([]int, 1000)} {
		got := allErrors(example(), set, 0, 0)
		for _, call := range []string{"Dries", "Kind", "Heat", "Good", "Longer"} {
			if got[call] != (outcome{api.ErrTunnelAsk, true}) {
				t.Errorf("%s by %v: %v", call, set, got[call])
			}
		}
		for _, call := range []string{"Best", "Most", "Lost", "Ask"} {
			if got[call].e != api.OK {
				t.Errorf("%s: %v", call, got[call])
			}
		}
	}
	for _, f := range []int{-1, 3, 4, math.MinInt, math.MaxInt} {
		got := allErrors(example(), []int{2, 2}, f, 0)
		for _, call := range []string{"Dries", "Kind", "Longer"} {
			if got[call] != (outcome{api.ErrTunnelAsk, true}) {
				t.Errorf("%s of %d: %v", call, f, got[call])
			}
		}
		if got["Heat"].e != api.OK || got["Good"].e != api.OK {
			t.Errorf("Heat, Good: %v, %v", got["Heat"], got["Good"])
		}
	}
	for _, p := range []int{-1, 2, 3, math.MinInt, math.MaxInt} {
		for _, set := range [][]int{{2, 2}, {0, 0}} { // by 0 0 the frame is not dry: that is named later
			if n, e := tunnel.Longer(example(), set, 0, p); n != 0 || e != api.ErrTunnelAsk {
				t.Errorf("Longer by %v in %d: %d, %d", set, p, n, e)
			}
		}
	}
	if n, e := tunnel.Kind(withFrames(example()), []int{2, 2}, 0); n != 0 || e != api.ErrTunnelAsk {
		t.Errorf("Kind of no frame: %d, %d", n, e)
	}
}

// TestDries is of P3.2.
func TestDries(t *testing.T) {
	for i, x := range []struct {
		b     api.TunnelBook
		set   []int
		frame int
		want  api.Span
		kind  int
	}{
		// of the chapter
		{example(), []int{2, 2}, 0, to(36, 45), api.TunnelDry}, {example(), []int{2, 2}, 1, to(36, 45), api.TunnelDry}, {example(), []int{2, 2}, 2, to(48, 60), api.TunnelDry},
		{example(), []int{1, 2}, 2, to(28, 40), api.TunnelSlow}, {example(), []int{1, 3}, 0, to(38, 47), api.TunnelQuick},
		// of DOC.md
		{plain(part(to(0, 1), 0, 0, 0, 5), part(to(0, 1), 0, 0, 5, 9))(frame(to(36, 45), 5, 4)), []int{3, 2}, 0, to(36, 45), api.TunnelDry},
		// an end that is not reached, and one that is missed by one
		{needing(0, 37, 45), []int{2, 2}, 0, to(36, 45), api.TunnelSlow}, {needing(0, 36, 44), []int{2, 2}, 0, to(36, 45), api.TunnelQuick},
		{needing(0, 37, 44), []int{2, 2}, 0, to(36, 45), api.TunnelBoth}, {needing(0, 36, 45), []int{2, 2}, 0, to(36, 45), api.TunnelDry},
		{needing(0, 40, 40), []int{2, 2}, 0, to(36, 45), api.TunnelBoth}, {needing(0, 46, 99), []int{2, 2}, 0, to(36, 45), api.TunnelSlow}, {needing(0, 0, 35), []int{2, 2}, 0, to(36, 45), api.TunnelQuick},
		// damp takes no more than all of a part's heat, and none of another one's
		{example(), []int{0, 0}, 0, to(0, 5), api.TunnelSlow}, {example(), []int{0, 1}, 1, to(0, 9), api.TunnelSlow}, {example(), []int{3, 0}, 0, to(35, 40), api.TunnelDry},
		{plain(part(to(3, 6), 5, 5, 5, 5), steps())(frame(to(6, 11), 2, 3)), []int{0, 2}, 0, to(6, 10), api.TunnelDry},
		{plain(part(to(17, 20), 1, 1, 1, 1))(frame(one(0), 20)), []int{3}, 0, one(0), api.TunnelDry},
		// a frame that does not stay, and the most of all
		{plain(part(to(0, 3), 0, 20, 20, 20), steps())(frame(one(6), 0, 2)), []int{3, 3}, 0, one(6), api.TunnelDry},
		{plain(part(one(0), 0, 0, 0, 20), part(one(0), 0, 0, 0, 20), part(one(0), 0, 0, 0, 20), part(to(0, 3), 0, 0, 0, 20))(frame(to(0, 999), 20, 20, 20, 20)), []int{3, 3, 3, 3}, 0, to(1540, 1600), api.TunnelQuick},
		{plain(steps(), steps(), steps(), steps())(frame(one(0), 1, 1, 1, 1)), []int{3, 2, 1, 0}, 0, one(6), api.TunnelQuick},
		{plain(steps(), steps(), steps(), steps())(frame(one(123), 0, 0, 0, 0), frame(one(321), 0, 1, 10, 20)), []int{0, 3, 2, 1}, 1, one(43), api.TunnelSlow},
	} {
		if s, e := tunnel.Dries(x.b, x.set, x.frame); s != x.want || e != api.OK {
			t.Errorf("Dries %d: %v, %d", i, s, e)
		}
		if n, e := tunnel.Kind(x.b, x.set, x.frame); n != x.kind || e != api.OK {
			t.Errorf("Kind %d: %d, %d", i, n, e)
		}
	}
}

// TestGood is of Heat of P3.1, and of P3.3.
func TestGood(t *testing.T) {
	for i, x := range []struct {
		b    api.TunnelBook
		set  []int
		heat int
		good []int
	}{
		{example(), []int{2, 2}, 11, []int{0, 1, 2}}, {example(), []int{3, 0}, 8, []int{0, 1}}, // of the chapter
		{example(), []int{0, 0}, 1, nil}, {example(), []int{2, 0}, 5, []int{0, 2}}, {example(), []int{1, 2}, 9, []int{0, 1}}, {example(), []int{3, 3}, 17, nil},
		{torn(), []int{2, 2}, 11, []int{0, 2}}, {lost(), []int{2, 2}, 11, []int{0, 1, 2}}, {lost(), []int{0, 0}, 1, nil},
		{withFrames(example()), []int{1, 3}, 12, nil},
		{small(), []int{0, 1}, 1, nil}, {plain(steps())(frame(one(3), 1), frame(one(3), 2), frame(one(3), 1)), []int{3}, 3, []int{0, 2}},
		{plain(part(one(20), 0, 9, 9, 20))(frame(one(0), 20)), []int{2}, 9, []int{0}}, // the heat is paid for, whatever the damp
		{rightBooks()["the most"], []int{3, 0, 1, 2}, 80, []int{0, 1, 2, 3, 4}},
	} {
		if n, e := tunnel.Heat(x.b, x.set); n != x.heat || e != api.OK {
			t.Errorf("Heat %d: %d, %d", i, n, e)
		}
		if l, e := tunnel.Good(x.b, x.set); !slices.Equal(l, x.good) || e != api.OK {
			t.Errorf("Good %d: %v, %d", i, l, e)
		}
	}
}

// TestBest is of P3.4 and P3.5.
func TestBest(t *testing.T) {
	for i, x := range []struct {
		b      api.TunnelBook
		best   []int
		e      api.Errno
		most   []int
		frames []int
	}{
		// of the chapter
		{example(), []int{2, 2}, api.OK, []int{2, 2}, []int{0, 1, 2}}, {torn(), nil, api.ErrNone, []int{2, 0}, []int{0, 2}}, {lost(), nil, api.ErrNone, []int{2, 2}, []int{0, 1, 2}},
		// nothing to dry, and nothing that dries
		{withFrames(example()), []int{0, 0}, api.OK, []int{0, 0}, nil}, {small(), nil, api.ErrNone, []int{0, 0}, nil},
		{plain(steps(), steps(), steps(), steps())(), []int{0, 0, 0, 0}, api.OK, []int{0, 0, 0, 0}, nil},
		{plain(steps())(frame(one(0), 9)), []int{0}, api.OK, []int{0}, []int{0}}, {plain(steps())(frame(one(9), 3)), []int{3}, api.OK, []int{3}, []int{0}},
		// of the same heat the first one, the numbers from the left
		{plain(steps(), steps())(frame(one(3), 1, 1)), []int{0, 3}, api.OK, []int{0, 3}, []int{0}},
		{plain(steps(), steps())(frame(one(12), 4, 4)), []int{0, 3}, api.OK, []int{0, 3}, []int{0}},
		{plain(steps(), steps(), steps())(frame(to(4, 5), 1, 1, 1)), []int{0, 1, 3}, api.OK, []int{0, 1, 3}, []int{0}},
		{plain(part(one(0), 2, 2, 2, 2), steps())(frame(to(3, 9), 1, 1)), []int{0, 1}, api.OK, []int{0, 1}, []int{0}},
		{plain(part(one(0), 0, 4, 4, 4), part(one(0), 0, 4, 4, 5))(frame(to(4, 9), 1, 1)), []int{0, 1}, api.OK, []int{0, 1}, []int{0}},
		// the least heat is not that of the least numbers, nor of the first or last setting that does
		{plain(part(one(0), 0, 0, 0, 9), part(one(0), 0, 5, 5, 5))(frame(to(20, 99), 4, 4)), []int{0, 1}, api.OK, []int{0, 1}, []int{0}},
		{plain(part(one(0), 0, 4, 4, 4), part(one(0), 0, 1, 2, 8))(frame(to(4, 9), 1, 1)), []int{1, 0}, api.OK, []int{1, 0}, []int{0}},
		{plain(part(one(0), 0, 1, 2, 3), part(one(0), 0, 7, 8, 9))(frame(to(2, 19), 1, 1)), []int{2, 0}, api.OK, []int{2, 0}, []int{0}},
		{plain(part(one(0), 0, 1, 2, 7), part(one(0), 0, 4, 5, 6))(frame(to(10, 99), 9, 2)), []int{2, 0}, api.OK, []int{2, 0}, []int{0}},
		// more frames come before less heat
		{pairwise(), nil, api.ErrNone, []int{0, 3}, []int{0, 2}},
		{plain(steps())(frame(one(1), 1), frame(one(3), 1), frame(one(9), 3)), nil, api.ErrNone, []int{3}, []int{1, 2}},
		{plain(steps())(frame(one(2), 2), frame(one(3), 1)), nil, api.ErrNone, []int{1}, []int{0}},
		{plain(part(one(0), 1, 1, 1, 1))(frame(one(1), 1), frame(one(3), 1)), nil, api.ErrNone, []int{0}, []int{0}},
	} {
		if l, e := tunnel.Best(x.b); !slices.Equal(l, x.best) || e != x.e {
			t.Errorf("Best %d: %v, %d", i, l, e)
		}
		if l, m, e := tunnel.Most(x.b); !slices.Equal(l, x.most) || !slices.Equal(m, x.frames) || e != api.OK {
			t.Errorf("Most %d: %v, %v, %d", i, l, m, e)
		}
	}
}

// TestClash is of P3.6.
func TestClash(t *testing.T) {
	at := func(needs ...int) api.TunnelBook { // one part, frames that each need one setting
		b := plain(steps())()
		for _, n := range needs {
			b.Frames = append(b.Frames, frame(one(n), 1))
		}
		return b
	}
	for i, x := range []struct {
		b          api.TunnelBook
		lost       []int
		one, other int
		e          api.Errno
	}{
		{example(), nil, 0, 0, api.ErrNone}, {torn(), nil, 1, 2, api.OK}, {lost(), []int{3}, 0, 0, api.ErrTunnelNot}, // of the chapter
		{withFrames(example()), nil, 0, 0, api.ErrNone}, {small(), []int{0}, 0, 0, api.ErrTunnelNot}, {pairwise(), nil, 0, 0, api.ErrNone},
		{at(2), nil, 0, 0, api.ErrNone}, {at(2, 2), nil, 0, 0, api.ErrNone}, {at(2, 1), nil, 0, 1, api.OK}, {at(0, 3), nil, 0, 1, api.OK},
		{at(1, 1, 2), nil, 0, 2, api.OK}, {at(2, 1, 1), nil, 0, 1, api.OK}, {at(1, 1, 1, 1, 2), nil, 0, 4, api.OK}, {at(1, 2, 1, 2, 1), nil, 0, 1, api.OK},
		{plain(steps())(frame(to(0, 9), 1), frame(one(1), 1), frame(to(0, 9), 1), frame(one(1), 1), frame(one(3), 1)), nil, 1, 4, api.OK},
		{plain(steps())(frame(to(0, 9), 1), frame(one(1), 1), frame(to(1, 3), 1), frame(one(2), 1), frame(one(3), 1)), nil, 1, 3, api.OK},
		{plain(steps())(frame(to(0, 9), 1), frame(to(0, 9), 1), frame(to(1, 3), 1), frame(one(1), 1), frame(one(3), 1)), nil, 3, 4, api.OK},
		{at(4), []int{0}, 0, 0, api.ErrTunnelNot}, {at(1, 2, 4), []int{2}, 0, 0, api.ErrTunnelNot}, {at(9, 2, 4, 1, 5), []int{0, 2, 4}, 0, 0, api.ErrTunnelNot},
		{needing(0, 40, 40), []int{0}, 0, 0, api.ErrTunnelNot}, // now and then it is dry in time, never surely
	} {
		if l, e := tunnel.Lost(x.b); !slices.Equal(l, x.lost) || e != api.OK {
			t.Errorf("Lost %d: %v, %d", i, l, e)
		}
		if n, m, e := tunnel.Clash(x.b); n != x.one || m != x.other || e != x.e {
			t.Errorf("Clash %d: %d, %d, %d", i, n, m, e)
		}
	}
}

// TestLonger is of P3.7 and, by example, of P3.14.
func TestLonger(t *testing.T) {
	for i, x := range []struct {
		b           api.TunnelBook
		set         []int
		frame, part int
		want        int
		e           api.Errno
	}{
		// of the chapter
		{example(), []int{2, 2}, 0, 0, 0, api.OK}, {example(), []int{2, 2}, 1, 1, 1, api.OK}, {example(), []int{1, 2}, 2, 0, 0, api.ErrNone},
		{example(), []int{2, 2}, 1, 0, 1, api.OK}, {example(), []int{2, 0}, 0, 0, 4, api.OK},
		// in a part that dries nothing it can stay to the end of all minutes
		{example(), []int{2, 0}, 2, 1, 18, api.OK}, {plain(part(to(3, 6), 0, 1, 2, 3))(frame(one(0), 20)), []int{3}, 0, 0, 0, api.OK}, {plain(part(to(3, 6), 0, 1, 2, 3))(frame(one(0), 0)), []int{3}, 0, 0, 20, api.OK},
		// and where it does not become too dry before
		{needing(0, 20, 999), []int{2, 2}, 0, 0, 15, api.OK}, {needing(0, 20, 120), []int{2, 2}, 0, 0, 15, api.OK}, {needing(0, 20, 119), []int{2, 2}, 0, 0, 14, api.OK},
		{needing(0, 20, 49), []int{2, 2}, 0, 0, 0, api.OK}, {needing(0, 20, 50), []int{2, 2}, 0, 0, 1, api.OK}, {needing(0, 20, 44), []int{2, 2}, 0, 0, 0, api.ErrNone},
		// the least damp counts
		{plain(part(to(1, 3), 0, 1, 2, 4))(frame(to(0, 9), 1)), []int{3}, 0, 0, 2, api.OK}, {plain(part(to(1, 3), 0, 1, 2, 4))(frame(to(0, 8), 1)), []int{3}, 0, 0, 1, api.OK},
		// one that is too wet is not dry in time, even if it would be later
		{needing(0, 37, 99), []int{2, 2}, 0, 0, 0, api.ErrNone}, {small(), []int{0, 1}, 0, 1, 0, api.ErrNone},
	} {
		if n, e := tunnel.Longer(x.b, x.set, x.frame, x.part); n != x.want || e != x.e {
			t.Errorf("Longer %d: %d, %d", i, n, e)
		}
	}
}

// TestAsk is of P3.8.
func TestAsk(t *testing.T) {
	dim := func(damp api.Span) api.TunnelPart { return part(damp, 0, 1, 2, 3) }
	exact := frame(one(10), 1, 10)
	for i, x := range []struct {
		b    api.TunnelBook
		want int
	}{
		{example(), 0}, {small(), 1}, // of the chapter
		{torn(), 0}, {lost(), 0}, {withFrames(example()), 0}, {plain(dim(to(0, 3)))(frame(one(3), 1)), 0}, // there is only one
		{plain(dim(to(0, 1)), dim(one(0)))(frame(one(10), 10, 1)), 0},
		{plain(dim(to(0, 1)), dim(to(0, 1)))(exact), 1}, {plain(dim(to(0, 1)), dim(to(0, 1)))(frame(one(10), 10, 1)), 0}, // by 0 1 or 0 2; 0 dries nothing
		{plain(dim(to(1, 2)), dim(to(1, 2)))(frame(one(1), 1, 1)), 0}, // of equal ones the first
		{plain(dim(one(0)), dim(one(0)), dim(one(0)), dim(to(0, 1)))(frame(one(1), 0, 0, 0, 1)), 3},
		{plain(dim(one(0)), dim(one(0)), dim(to(0, 1)), dim(to(0, 1)))(frame(one(1), 0, 0, 1, 1)), 2},
		{plain(dim(to(0, 3)), dim(to(0, 1)))(frame(one(2), 1, 1)), 1},                                                                // with a damp of 3, 0 dries nothing
		{plain(dim(to(0, 3)), dim(to(0, 2)))(frame(one(2), 1, 0), frame(one(4), 2, 0), frame(one(2), 0, 1), frame(one(1), 0, 1)), 1}, // 0 or 2, and 1
		{plain(dim(to(0, 2)), dim(to(0, 3)))(frame(one(2), 0, 1), frame(one(4), 0, 2), frame(one(2), 1, 0), frame(one(1), 1, 0)), 0},
	} {
		if n, e := tunnel.Ask(x.b); n != x.want || e != api.OK {
			t.Errorf("Ask %d: %d, %d", i, n, e)
		}
	}
}
