package paste_test

import (
	"math/rand"
	"slices"
	"testing"

	"lucifer/api"
	"lucifer/paste"
)

// The tests in this file hold the package against the definitions, and against the chapter's properties, on many books.

const many = 400

// TestTruths is of P2.1 to P2.3, and of P2.11.
func TestTruths(t *testing.T) {
	for _, b := range someBooks(many) {
		truths := truthsOf(b)
		if is, e := paste.Right(b); is != (len(truths) > 0) || e != api.OK {
			t.Fatalf("Right of %v: %v, %d", b, is, e)
		}
		if len(truths) == 0 {
			got := allErrors(b, 0, 0)
			for _, call := range []string{"Power", "Lights", "Safe", "Next"} {
				if got[call] != (outcome{api.ErrPasteFalse, true}) {
					t.Fatalf("%s of %v: %v", call, b, got[call])
				}
			}
			continue
		}
		if s, e := paste.Power(b); s != powersOf(b, truths) || e != api.OK {
			t.Fatalf("Power of %v: %v, %d", b, s, e)
		}
		for s := range b.Surfaces {
			if n, e := paste.Lights(b, s); n != lightsOf(b, truths, s) || e != api.OK {
				t.Fatalf("Lights of %v on %d: %d, %d", b, s, n, e)
			}
		}
		if is, e := paste.Safe(b); is != safeOf(b, truths) || e != api.OK {
			t.Fatalf("Safe of %v: %v, %d", b, is, e)
		}
	}
}

// TestPairs is of P2.4 and P2.5.
func TestPairs(t *testing.T) {
	for _, b := range someBooks(many) {
		for s := range b.Surfaces {
			want, e := blameOf(b, s)
			if l, got := paste.Blame(b, s); !slices.Equal(l, want) || got != e {
				t.Fatalf("Blame of %v on %d: %v, %d", b, s, l, got)
			}
		}
		for s := range b.Salts {
			want, e := lessOf(b, s)
			if n, got := paste.Less(b, s); n != want || got != e {
				t.Fatalf("Less of %v, %d: %d, %d", b, s, n, got)
			}
		}
	}
}

// safer returns a book whose box is easier to light on than all else.
func safer(b api.PasteBook) api.PasteBook {
	b.Surfaces = slices.Clone(b.Surfaces)
	box := &b.Surfaces[0]
	box.Rub = to(box.Rub.Low+60, box.Rub.High+60)
	return b
}

// TestMoreDamp is of P2.6 and P2.14.
func TestMoreDamp(t *testing.T) {
	some := 0
	for i, b := range someBooks(many) {
		if i%4 > 0 {
			b = safer(b)
		}
		is := dampersOf(b)
		s, e := paste.Damper(b)
		if !slices.Contains(is, true) {
			if s != (api.Span{}) || e != api.ErrNone {
				t.Fatalf("Damper of %v: %v, %d", b, s, e)
			}
			continue
		}
		some++
		if e != api.OK {
			t.Fatalf("Damper of %v: %d", b, e)
		}
		for n := range is {
			if is[n] != (n >= s.Low && n <= s.High) {
				t.Fatalf("Damper of %v: %v, but %d does: %v", b, s, n, is[n])
			}
		}
	}
	if some < many/10 {
		t.Errorf("there are only %d books with an answer", some)
	}
}

// TestWrongTrials is of P2.7, and of P2.13.
func TestWrongTrials(t *testing.T) {
	r := rand.New(rand.NewSource(5))
	some := [api.PasteTrials + 1]int{}
	for i := range many {
		b, _ := rubbed(r, someBook(r, size{salts: 2, surfaces: 3, trials: 5, rub: 12, far: 1}), 5, i%4 == 0)
		want := wrongOf(b)
		if l, e := paste.Wrong(b); !slices.Equal(l, want) || e != api.OK {
			t.Fatalf("Wrong of %v: %v, not %v, %d", b, l, want, e)
		}
		some[len(want)]++
	}
	if some[1] < 20 || some[2] < 10 {
		t.Errorf("so many books have 0, 1, 2 .. wrong trials: %v", some)
	}
}

// TestNextTrial is of P2.8.
func TestNextTrial(t *testing.T) {
	r := rand.New(rand.NewSource(10))
	some := [api.PasteSurfaces]int{}
	for range 4 * many {
		b := someBook(r, small)
		b.Need = 150
		for i := range b.Surfaces { // so that each of them tells something
			truly := someTruth(r, b)
			rub := b.Need - powerIn(b, truly) + r.Intn(3) - 1
			rub = min(max(rub, 0), 190)
			b.Surfaces[i] = surface(to(rub, rub+r.Intn(2)), to(0, r.Intn(3)))
		}
		b, _ = rubbed(r, b, 2, true)
		want, e := nextOf(b)
		if n, got := paste.Next(b); n != want || got != e {
			t.Fatalf("Next of %v: %d, not %d, %d", b, n, want, got)
		}
		some[want]++
	}
	if some[1] < 20 || some[2] < 20 {
		t.Errorf("so many books have the surface 0, 1, 2 ..: %v", some)
	}
}

// TestTruePaste is of P2.10, with large books: what is told holds in the truth of which the trials are.
func TestTruePaste(t *testing.T) {
	r := rand.New(rand.NewSource(6))
	for range 1500 {
		b, truly := rubbed(r, someBook(r, large), large.trials, true)
		if is, e := paste.Right(b); !is || e != api.OK {
			t.Fatalf("Right of %v: %v, %d", b, is, e)
		}
		if l, e := paste.Wrong(b); len(l) > 0 || e != api.OK {
			t.Fatalf("Wrong of %v: %v, %d", b, l, e)
		}
		if s, e := paste.Power(b); powerIn(b, truly) < s.Low || powerIn(b, truly) > s.High || e != api.OK {
			t.Fatalf("Power of %v: %v, %d, but it is %d", b, s, e, powerIn(b, truly))
		}
		for s, known := range b.Surfaces {
			n, e := paste.Lights(b, s)
			if e != api.OK {
				t.Fatalf("Lights of %v on %d: %d", b, s, e)
			}
			if n == 2 && !lightsIn(b, truly, s, known.Damp.High) || n == 0 && lightsIn(b, truly, s, known.Damp.Low) {
				t.Fatalf("Lights of %v on %d: %d, but it is %v", b, s, n, truly)
			}
		}
	}
}

// TestOneTrialMore is of P2.11, with large books.
func TestOneTrialMore(t *testing.T) {
	r := rand.New(rand.NewSource(7))
	for range many {
		b, truly := rubbed(r, someBook(r, large), large.trials-1, true)
		before, _ := paste.Power(b)
		s := r.Intn(len(b.Surfaces))
		for _, lit := range []bool{true, false} {
			p, e := paste.Power(tried(b, s, lit))
			if e == api.OK && (p.Low < before.Low || p.High > before.High) || e != api.OK && e != api.ErrPasteFalse {
				t.Fatalf("%v has become %v, %d, with a trial on %d of %v", before, p, e, s, b)
			}
			if lit == lightsIn(b, truly, s, b.Surfaces[s].Damp.Low) && e != api.OK {
				t.Fatalf("a right trial on %d of %v: %d", s, b, e)
			}
		}
	}
}

// lighter reports whether a head lights on as much in b as in c, or on less.
func lighter(b, c api.PasteBook) bool {
	for s := range b.Surfaces {
		one, _ := paste.Lights(b, s)
		other, _ := paste.Lights(c, s)
		if one > other {
			return false
		}
	}
	return true
}

// TestLessAndDamper is of P2.12, with large books.
func TestLessAndDamper(t *testing.T) {
	r := rand.New(rand.NewSource(8))
	safe := 0
	for range many {
		b := someBook(r, large)
		for s, known := range b.Salts {
			if n := known.Amount.High - known.Amount.Low; n > 0 && !lighter(less(b, s, 1+r.Intn(n)), b) {
				t.Fatalf("less of %d makes %v light on more", s, b)
			}
		}
		for range 5 {
			n := 1 + r.Intn(60)
			if c := damper(b, n); paste.Check(c) == api.OK && !lighter(c, b) {
				t.Fatalf("%d more damp makes %v light on more", n, b)
			}
		}
		b.Surfaces[0].Rub, b.Surfaces[0].Damp = one(200), one(0)
		if is, _ := paste.Safe(b); !is {
			continue
		}
		safe++
		for i := range b.Pairs {
			c := withPairs(b, slices.Delete(slices.Clone(b.Pairs), i, i+1)...)
			for s := 1; s < len(c.Surfaces); s++ {
				if n, e := paste.Lights(c, s); n != 0 || e != api.OK {
					t.Fatalf("without the pair %d %v lights on %d: %d, %d", i, b, s, n, e)
				}
			}
		}
	}
	if safe < 20 {
		t.Errorf("there are only %d safe ones", safe)
	}
}

// TestFewestWrong is of P2.13, with large books.
func TestFewestWrong(t *testing.T) {
	r := rand.New(rand.NewSource(9))
	for range many {
		b, _ := rubbed(r, someBook(r, large), large.trials, false)
		wrong, e := paste.Wrong(b)
		if e != api.OK {
			t.Fatalf("Wrong of %v: %d", b, e)
		}
		for set := range 1 << len(b.Trials) {
			list, left := parted(b, set)
			is, _ := paste.Right(withTrials(b, left...))
			if first := sooner(list, wrong); is && first < 0 || !is && first == 0 {
				t.Fatalf("Wrong of %v: %v, but without %v it can be true: %v", b, wrong, list, is)
			}
		}
	}
}
