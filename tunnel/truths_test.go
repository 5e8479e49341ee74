package tunnel_test

import (
	"math/rand"
	"slices"
	"testing"

	"lucifer/api"
	"lucifer/tunnel"
)

// The tests in this file hold the package against the definitions, and against the chapter's properties, on many books.

const many = 400

// TestTruths is of P3.1 to P3.3, and of the frames in P3.10.
func TestTruths(t *testing.T) {
	r := rand.New(rand.NewSource(3))
	kinds := map[int]int{}
	for _, b := range someBooks(many) {
		for range 5 {
			set := someSet(r, b)
			for f := range b.Frames {
				span, kind := driesOf(b, set, f)
				if s, e := tunnel.Dries(b, set, f); s != span || e != api.OK {
					t.Fatalf("Dries of %v by %v, %d: %v, not %v, %d", b, set, f, s, span, e)
				}
				if n, e := tunnel.Kind(b, set, f); n != kind || e != api.OK {
					t.Fatalf("Kind of %v by %v, %d: %d, not %d, %d", b, set, f, n, kind, e)
				}
				kinds[kind]++
			}
			if n, e := tunnel.Heat(b, set); n != heatOf(b, set) || e != api.OK {
				t.Fatalf("Heat of %v by %v: %d, %d", b, set, n, e)
			}
			if l, e := tunnel.Good(b, set); !slices.Equal(l, goodOf(b, set)) || e != api.OK {
				t.Fatalf("Good of %v by %v: %v, %d", b, set, l, e)
			}
		}
	}
	for kind := range 4 {
		if kinds[kind] < many/10 {
			t.Errorf("so many frames are of each kind: %v", kinds)
		}
	}
}

// TestChoices is of P3.4 to P3.6, and of P3.11 and P3.12: all settings are tried out.
func TestChoices(t *testing.T) {
	best, clash := map[api.Errno]int{}, map[api.Errno]int{}
	for _, b := range someBooks(many) {
		all := allResults(b)
		want, e := bestOf(b, all)
		if l, got := tunnel.Best(b); !slices.Equal(l, want) || got != e {
			t.Fatalf("Best of %v: %v, not %v, %d", b, l, want, got)
		}
		best[e]++
		most := mostOf(all)
		if l, m, e := tunnel.Most(b); !slices.Equal(l, most.set) || !slices.Equal(m, most.good) || e != api.OK {
			t.Fatalf("Most of %v: %v, %v, not %v, %d", b, l, m, most, e)
		}
		if l, e := tunnel.Lost(b); !slices.Equal(l, lostOf(b, all)) || e != api.OK {
			t.Fatalf("Lost of %v: %v, %d", b, l, e)
		}
		one, other, e := clashOf(b, all)
		if n, m, got := tunnel.Clash(b); n != one || m != other || got != e {
			t.Fatalf("Clash of %v: %d, %d, %d, not %d, %d, %d", b, n, m, got, one, other, e)
		}
		clash[e]++
	}
	if best[api.OK] < many/10 || best[api.ErrNone] < many/10 || clash[api.OK] < many/10 || clash[api.ErrNone] < many/10 || clash[api.ErrTunnelNot] < many/10 {
		t.Errorf("so many books have so: %v, %v", best, clash)
	}
}

// TestEachHead is of P3.10: what is told holds in each truth.
func TestEachHead(t *testing.T) {
	for _, b := range someBooks(many) {
		set, frames, e := tunnel.Most(b)
		if e != api.OK {
			t.Fatalf("Most of %v: %d", b, e)
		}
		best, e := tunnel.Best(b)
		for _, damps := range allTruths(b) {
			for f, known := range b.Frames {
				if n := dryIn(b, damps, set, f); slices.Contains(frames, f) && (n < known.Need.Low || n > known.Need.High) {
					t.Fatalf("by %v the frame %d of %v is dried by %d with %v", set, f, b, n, damps)
				}
				if e != api.OK {
					continue
				}
				if n := dryIn(b, damps, best, f); n < known.Need.Low || n > known.Need.High {
					t.Fatalf("by the best %v the frame %d of %v is dried by %d with %v", best, f, b, n, damps)
				}
			}
		}
	}
}

// TestTwoFrames is of P3.12.
func TestTwoFrames(t *testing.T) {
	clashes := 0
	for _, b := range someBooks(many) {
		one, other, e := tunnel.Clash(b)
		if e != api.OK {
			continue
		}
		clashes++
		alone := map[int]bool{}
		for _, set := range allSets(len(b.Parts)) {
			n, _ := tunnel.Kind(b, set, one)
			m, _ := tunnel.Kind(b, set, other)
			if n == api.TunnelDry && m == api.TunnelDry {
				t.Fatalf("the frames %d and %d of %v are dry by %v", one, other, b, set)
			}
			alone[one] = alone[one] || n == api.TunnelDry
			alone[other] = alone[other] || m == api.TunnelDry
		}
		if one >= other || !alone[one] || !alone[other] {
			t.Fatalf("Clash of %v: %d, %d, %v", b, one, other, alone)
		}
		if _, e := tunnel.Best(withFrames(b, b.Frames[one], b.Frames[other])); e != api.ErrNone {
			t.Fatalf("Best of %v and %v: %d", b.Frames[one], b.Frames[other], e)
		}
	}
	if clashes < many/10 {
		t.Errorf("there are only %d clashes", clashes)
	}
}

// easier returns books that are a book with something less to ask for; the frames but missing are all there.
func easier(r *rand.Rand, b api.TunnelBook) (books []api.TunnelBook, missing []int) {
	add := func(c api.TunnelBook, without int) { books, missing = append(books, c), append(missing, without) }
	for f := range b.Frames {
		add(withFrames(b, slices.Delete(slices.Clone(b.Frames), f, f+1)...), f)
		wider := withFrames(b, slices.Clone(b.Frames)...)
		need := &wider.Frames[f].Need
		*need = to(max(0, need.Low-r.Intn(5)), min(api.TunnelNeed, need.High+r.Intn(5)))
		add(wider, -1)
	}
	for p, known := range b.Parts {
		s := to(known.Damp.Low+r.Intn(known.Damp.High-known.Damp.Low+1), known.Damp.High)
		add(dampIs(b, p, s), -1)
		add(dampIs(b, p, one(s.Low)), -1)
	}
	return books, missing
}

// TestEasier is of P3.13.
func TestEasier(t *testing.T) {
	r := rand.New(rand.NewSource(4))
	for _, b := range someBooks(many) {
		best, e := tunnel.Best(b)
		_, frames, _ := tunnel.Most(b)
		books, missing := easier(r, b)
		for i, c := range books {
			less, f := tunnel.Best(c)
			if e == api.OK && (f != api.OK || heatOf(c, less) > heatOf(b, best)) {
				t.Fatalf("Best of %v: %v, but of %v: %v, %d", b, best, c, less, f)
			}
			want := len(frames)
			if slices.Contains(frames, missing[i]) {
				want--
			}
			if set, good, e := tunnel.Most(c); len(good) < want || e != api.OK {
				t.Fatalf("Most of %v: %v, but of %v: %v, %v, %d", b, frames, c, set, good, e)
			}
		}
	}
}

// TestMoreMinutes is of P3.7 and P3.14.
func TestMoreMinutes(t *testing.T) {
	r := rand.New(rand.NewSource(5))
	some := map[bool]int{}
	for _, b := range someBooks(many) {
		set, _, _ := tunnel.Most(b)
		if r.Intn(4) == 0 {
			set = someSet(r, b)
		}
		for f := range b.Frames {
			for p := range b.Parts {
				want, e := longerOf(b, set, f, p)
				n, got := tunnel.Longer(b, set, f, p)
				if n != want || got != e {
					t.Fatalf("Longer of %v by %v, %d in %d: %d, %d, not %d, %d", b, set, f, p, n, got, want, e)
				}
				if got != api.OK {
					continue
				}
				some[n > 0]++
				if kind, _ := tunnel.Kind(stayed(b, f, p, n), set, f); kind != api.TunnelDry {
					t.Fatalf("the frame %d of %v is %d by %v, with %d minutes more in %d", f, b, kind, set, n, p)
				}
				if kind, e := tunnel.Kind(stayed(b, f, p, n+1), set, f); e == api.OK && kind == api.TunnelDry {
					t.Fatalf("the frame %d of %v is dry by %v, with more than %d minutes more in %d", f, b, set, n, p)
				}
			}
		}
	}
	if some[false] < many/10 || some[true] < many/10 {
		t.Errorf("so many can stay longer: %v", some)
	}
}

// TestGreaterSettings is of P3.15.
func TestGreaterSettings(t *testing.T) {
	r := rand.New(rand.NewSource(6))
	for _, b := range someBooks(many) {
		set := someSet(r, b)
		greater := slices.Clone(set)
		for i := range greater {
			greater[i] += r.Intn(4 - greater[i])
		}
		for f := range b.Frames {
			s, e := tunnel.Dries(b, set, f)
			g, h := tunnel.Dries(b, greater, f)
			if e != api.OK || h != api.OK || s.Low > s.High || g.Low < s.Low || g.High < s.High {
				t.Fatalf("the frame %d of %v: %v by %v, %v by %v", f, b, s, set, g, greater)
			}
		}
	}
}

// TestWhichDamp is of P3.8.
func TestWhichDamp(t *testing.T) {
	r := rand.New(rand.NewSource(7))
	asked := map[int]int{}
	for i := range many {
		b := closeBook(r, 2+i%2)
		if i%4 == 0 {
			b = someBook(r, 2+i%2, 3)
		}
		want := askOf(b)
		if n, e := tunnel.Ask(b); n != want || e != api.OK {
			t.Fatalf("Ask of %v: %d, not %d, %d", b, n, want, e)
		}
		asked[want]++
	}
	b := someBook(r, api.TunnelParts, 2)
	if n, e := tunnel.Ask(b); n != askOf(b) || e != api.OK {
		t.Fatalf("Ask of %v: %d, %d", b, n, e)
	}
	if asked[1] < many/10 || asked[2] < many/40 {
		t.Errorf("so often each part is asked for: %v", asked)
	}
}
