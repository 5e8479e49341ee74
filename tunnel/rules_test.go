package tunnel_test

import (
	"math"
	"math/rand"
	"reflect"
	"slices"
	"testing"

	"lucifer/api"
	"lucifer/tunnel"
)

// TestAnyArguments is of P1: no call panics, each error is the one that is named first, and with it all else is zero.
func TestAnyArguments(t *testing.T) {
	numbers := []int{math.MinInt, -1, 0, 1, 2, 3, 4, 5, 19, 20, 21, 999, 1000, math.MaxInt}
	r := rand.New(rand.NewSource(2))
	any := func() int { return numbers[r.Intn(len(numbers))] }
	for i := range 5000 {
		var b api.TunnelBook
		for range r.Intn(6) {
			b.Parts = append(b.Parts, part(to(any(), any()), any(), any(), any(), any()))
		}
		for range r.Intn(7) {
			b.Frames = append(b.Frames, frame(to(any(), any()), []int{any(), any(), any(), any(), any()}[:r.Intn(6)]...))
		}
		if i%4 == 0 {
			b = someBook(r, 1+r.Intn(2), 3)
		}
		set := []int{any(), any(), any(), any(), any()}[:r.Intn(6)]
		if i%8 == 0 {
			set = someSet(r, b)
		}
		frame, part := any(), any()
		want := wantErrors(b, set, frame, part)
		for call, got := range allErrors(b, set, frame, part) {
			if e := want[call]; got.e != e || got.e != api.OK && !got.zero {
				t.Fatalf("%s of %v, %v, %d, %d: %v, not %d", call, b, set, frame, part, got, e)
			}
		}
	}
}

// wantErrors returns of each call the error that it has (none is OK).
func wantErrors(b api.TunnelBook, set []int, frame, part int) map[string]api.Errno {
	want := map[string]api.Errno{}
	if tunnel.Check(b) != api.OK {
		for call := range allErrors(b, set, frame, part) {
			want[call] = api.ErrTunnel
		}
		return want
	}
	all := allResults(b)
	_, want["Best"] = bestOf(b, all)
	_, _, want["Clash"] = clashOf(b, all)
	isSet := slices.ContainsFunc(all, func(r result) bool { return slices.Equal(r.set, set) })
	isFrame, isPart := frame >= 0 && frame < len(b.Frames), part >= 0 && part < len(b.Parts)
	if !isSet {
		want["Heat"], want["Good"] = api.ErrTunnelAsk, api.ErrTunnelAsk
	}
	if !isSet || !isFrame {
		want["Dries"], want["Kind"] = api.ErrTunnelAsk, api.ErrTunnelAsk
	}
	if !isSet || !isFrame || !isPart {
		want["Longer"] = api.ErrTunnelAsk
	} else {
		_, want["Longer"] = longerOf(b, set, frame, part)
	}
	return want
}

// everything returns all that the package tells of a book and a setting.
func everything(b api.TunnelBook, set []int) []any {
	var all []any
	both := func(x any, e api.Errno) { all = append(all, x, e) }
	list := func(l []int, e api.Errno) { both(append([]int{}, l...), e) }
	both(nil, tunnel.Check(b))
	n, e := tunnel.Heat(b, set)
	both(n, e)
	l, e := tunnel.Good(b, set)
	list(l, e)
	l, e = tunnel.Best(b)
	list(l, e)
	l, m, e := tunnel.Most(b)
	list(l, e)
	list(m, e)
	l, e = tunnel.Lost(b)
	list(l, e)
	n, o, e := tunnel.Clash(b)
	both([]int{n, o}, e)
	n, e = tunnel.Ask(b)
	both(n, e)
	for i := range 7 {
		s, e := tunnel.Dries(b, set, i-1)
		both(s, e)
		n, e := tunnel.Kind(b, set, i-1)
		both(n, e)
		for k := range 6 {
			n, e := tunnel.Longer(b, set, i-1, k-1)
			both(n, e)
		}
	}
	return all
}

// TestSameAgain is of P2.
func TestSameAgain(t *testing.T) {
	books := someBooks(60)
	for _, b := range wrongBooks() {
		books = append(books, b)
	}
	var before [][]any
	for _, b := range books {
		before = append(before, everything(b, []int{2, 1}))
	}
	for i := len(books) - 1; i >= 0; i-- {
		if again := everything(books[i], []int{2, 1}); !reflect.DeepEqual(again, before[i]) {
			t.Errorf("of %v there was %v, and now %v", books[i], before[i], again)
		}
	}
}

// TestNilAndEmpty is of R3.
func TestNilAndEmpty(t *testing.T) {
	none, empty := withFrames(example()), example()
	none.Frames, empty.Frames = nil, []api.TunnelFrame{}
	for _, set := range [][]int{{2, 2}, nil, {}} {
		if a, b := everything(none, set), everything(empty, set); !reflect.DeepEqual(a, b) {
			t.Errorf("%v, %v", a, b)
		}
	}
	if a, b := everything(example(), nil), everything(example(), []int{}); !reflect.DeepEqual(a, b) {
		t.Errorf("%v, %v", a, b)
	}
	if e := tunnel.Check(api.TunnelBook{Parts: []api.TunnelPart{}}); e != api.ErrTunnel {
		t.Errorf("no parts: %d", e)
	}
}

// spare returns a copy of the list that has room behind its end, in which there is something.
func spare[T any](list []T, filler T) []T {
	c := append(slices.Clone(list), filler, filler, filler)
	return c[:len(list)]
}

// kept reports whether a list is as it was given, and has the filler behind its end.
func kept[T any](list, given []T, filler T) bool {
	// As many of both, for nil and an empty list are the same here.
	return len(list) == len(given) && reflect.DeepEqual(list[:len(given)+3], append(slices.Clone(given), filler, filler, filler))
}

// TestOnlyRead is of P3.9: arguments are not changed, not even behind their ends.
func TestOnlyRead(t *testing.T) {
	fillPart, fillFrame := part(one(77), 7, 7, 7, 7), frame(one(77), 77)
	for _, given := range append(someBooks(100), example(), torn(), lost()) {
		b := api.TunnelBook{Parts: spare(given.Parts, fillPart), Frames: spare(given.Frames, fillFrame)}
		for f := range b.Frames {
			b.Frames[f].Stay = spare(given.Frames[f].Stay, 77)
		}
		givenSet := slices.Repeat([]int{2}, len(b.Parts))
		set := spare(givenSet, 77)
		everything(b, set)
		if !kept(b.Parts, given.Parts, fillPart) || !kept(b.Frames, given.Frames, fillFrame) || !kept(set, givenSet, 77) {
			t.Fatalf("%v, %v has become %v, %v", given, givenSet, b, set)
		}
		for f := range b.Frames {
			if !kept(b.Frames[f].Stay, given.Frames[f].Stay, 77) {
				t.Fatalf("%v has become %v", given, b)
			}
		}
	}
}

// TestNewMemory is of P3.9: results share nothing with arguments, nor with each other.
func TestNewMemory(t *testing.T) {
	b, set := example(), []int{2, 2}
	for name, call := range map[string]func() []int{
		"Good":         func() []int { l, _ := tunnel.Good(b, set); return l },
		"Best":         func() []int { l, _ := tunnel.Best(b); return l },
		"Most":         func() []int { l, _, _ := tunnel.Most(b); return l },
		"Most, frames": func() []int { _, l, _ := tunnel.Most(b); return l },
		"Lost":         func() []int { l, _ := tunnel.Lost(lost()); return l },
	} {
		first, second := call(), call()
		want := slices.Clone(first)
		if len(want) == 0 {
			t.Fatalf("%s: nothing", name)
		}
		for i := range first {
			first[i] = -1
		}
		_ = append(first, -1)
		if third := call(); !slices.Equal(second, want) || !slices.Equal(third, want) {
			t.Errorf("%s: %v, %v", name, second, third)
		}
	}
	l, m, _ := tunnel.Most(b)
	_ = append(l, -1, -1, -1, -1, -1)
	l[0], l[1] = 9, 9
	if !slices.Equal(m, []int{0, 1, 2}) || !reflect.DeepEqual(b, example()) || !slices.Equal(set, []int{2, 2}) {
		t.Errorf("%v; the book has become %v, %v", m, b, set)
	}
	best, _ := tunnel.Best(b)
	b.Frames[0].Need, b.Parts[0].Heat[2], b.Frames[1].Stay[0] = to(0, 999), 8, 9
	if changed, _ := tunnel.Best(b); !slices.Equal(best, []int{2, 2}) || slices.Equal(changed, best) {
		t.Errorf("Best: %v, and after a change %v", best, changed)
	}
}
