package band_test

import (
	"math/rand"
	"slices"
	"testing"

	"lucifer/api"
	"lucifer/band"
	"lucifer/fill"
)

// The tests in this file hold the package against the definitions, and against the chapter's properties, on many books.

const many = 400

// bits returns the kinds that a set stands for.
func bits(set int) []int {
	var kinds []int
	for kind := range 4 {
		if set>>kind&1 == 1 {
			kinds = append(kinds, kind)
		}
	}
	return kinds
}

// sameOutcome fails if the package tells something else of a book than what is so in its truths.
func sameOutcome(t *testing.T, b api.BandBook, o outcome, numbers []int) {
	t.Helper()
	if is, e := band.Right(b); is != o.right() || e != api.OK {
		t.Fatalf("Right of %v: %v, %d", b, is, e)
	}
	want, f := o.missing()
	if s, e := band.Missing(b); s != want || e != f {
		t.Fatalf("Missing of %v: %v, not %v, %d", b, s, want, e)
	}
	for _, rate := range []int{0, 1, 7, 1000} {
		want, f := o.due(rate)
		if s, e := band.Due(b, rate); s != want || e != f {
			t.Fatalf("Due of %v for %d: %v, not %v, %d", b, rate, s, want, e)
		}
	}
	for _, number := range numbers {
		if n, e := band.What(b, number); n != o.what[number] || e != f {
			t.Fatalf("What of %v, %d: %d, not %d, %d", b, number, n, o.what[number], e)
		}
	}
}

// TestTruths is of P8.2 to P8.4 and P8.6: all truths of small books are tried out.
func TestTruths(t *testing.T) {
	right, what := map[bool]int{}, map[int]int{}
	for _, b := range someBooks(many) {
		k := know(b)
		o := k.allTruths()
		sameOutcome(t, b, o, k.bands)
		sameOutcome(t, b, k.allTotals(k.bands...), k.bands) // as a test of what large books are held against
		right[o.right()]++
		for _, set := range o.what {
			what[set]++
		}
	}
	if right[true] < many/4 || right[false] < many/4 {
		t.Errorf("so many books can be true: %v", right)
	}
	if len(what) != 5 || what[1] < 20 || what[2] < 20 || what[4] < 20 || what[8] < 20 || what[9] < 20 {
		t.Errorf("so many bands can be what: %v", what)
	}
}

// TestLargeTruths is of P8.2 to P8.4 and P8.6, with large books.
func TestLargeTruths(t *testing.T) {
	r := rand.New(rand.NewSource(3))
	right, what := map[bool]int{}, map[int]int{}
	for _, b := range largeBooks(many) {
		k := know(b)
		var some []int
		for range 5 {
			some = append(some, k.bands[r.Intn(len(k.bands))])
		}
		o := k.allTotals(some...)
		sameOutcome(t, b, o, some)
		right[o.right()]++
		for _, set := range o.what {
			what[set]++
		}
	}
	if right[true] < many/4 || right[false] < many/4 || len(what) != 5 {
		t.Errorf("so many books can be true: %v; so many bands can be what: %v", right, what)
	}
}

// TestNotes is of P8.1, P8.2 and P8.5.
func TestNotes(t *testing.T) {
	strange, clashes, runs := map[int]int{}, map[api.Errno]int{}, map[int]int{}
	for _, b := range slices.Concat(someBooks(many), largeBooks(many), disputedBooks(many)) {
		k := know(b)
		if s, e := band.Used(b); s != k.used || e != api.OK {
			t.Fatalf("Used of %v: %v, %d", b, s, e)
		}
		if l, e := band.Strange(b); !slices.Equal(l, k.strange()) || e != api.OK {
			t.Fatalf("Strange of %v: %v, %d", b, l, e)
		}
		first, next, f := k.clash()
		if n, m, e := band.Clash(b); n != first || m != next || e != f {
			t.Fatalf("Clash of %v: %d, %d, %d", b, n, m, e)
		}
		gaps := k.gaps()
		if l, e := band.Gaps(b); !slices.Equal(l, gaps) || e != api.OK {
			t.Fatalf("Gaps of %v: %v, not %v, %d", b, l, gaps, e)
		}
		strange[len(k.strange())]++
		clashes[f]++
		runs[len(gaps)]++
	}
	if strange[0] < many || strange[1] < 20 || strange[2] < 5 || clashes[api.OK] < many/10 || clashes[api.ErrNone] < many || runs[0] < 20 || runs[3] < 20 || runs[5] < 20 {
		t.Errorf("so many notes are strange: %v; so often two clash: %v; there are so many gaps: %v", strange, clashes, runs)
	}
}

// TestWrongNotes is of P8.7 and P8.12: all lists of notes are tried out.
func TestWrongNotes(t *testing.T) {
	some, never := map[int]int{}, 0
	for _, b := range slices.Concat(someBooks(many), largeBooks(many/4), disputedBooks(many/4)) {
		want, f := know(b).wrong()
		list, e := band.Wrong(b)
		if !slices.Equal(list, want) || e != f {
			t.Fatalf("Wrong of %v: %v, not %v, %d", b, list, want, e)
		}
		if e != api.OK {
			never++
			continue
		}
		some[len(list)]++
		for _, other := range choices(len(b.Notes)) {
			is, e := band.Right(without(b, other))
			if len(other) < len(list) && is || slices.Equal(other, list) && !is || e != api.OK {
				t.Fatalf("Wrong of %v: %v; right without %v: %v, %d", b, list, other, is, e)
			}
		}
	}
	if never < 10 || some[0] < many/4 || some[1] < 50 || some[2] < 10 || some[3] < 5 {
		t.Errorf("so many notes must be wrong: %v, and %d times it is not the notes", some, never)
	}
}

// runsOf returns the runs of bands of one kind, over the rolls' ends only if these lie side by side.
func runsOf(k known, what []int, kind int) []api.BandNote {
	var runs []api.BandNote
	for i, number := range k.bands {
		if what[i] != kind {
			continue
		}
		if n := len(runs) - 1; n >= 0 && runs[n].To == number-1 && number-runs[n].From < api.BandLong {
			runs[n].To = number
		} else {
			runs = append(runs, note(kind, number, number))
		}
	}
	return runs
}

// happened returns what became of each band, and a book of it in which some of the used ones are noted.
func happened(r *rand.Rand) (api.BandBook, []int) {
	for {
		boxes := r.Intn(api.FillHands + 1)
		byHand := r.Intn(boxes + 1)
		b := closed(boxes, byHand, someRolls(r, 1+r.Intn(60)))
		k := know(b)
		what := make([]int, len(k.bands))
		for i := range what {
			what[i] = r.Intn(4)
			if i > 0 && r.Intn(4) > 0 {
				what[i] = what[i-1]
			}
		}
		b.Notes = append(runsOf(k, what, api.BandSpoiled), runsOf(k, what, api.BandLeft)...)
		for _, n := range runsOf(k, what, api.BandUsed) {
			if from := n.From + r.Intn(n.To-n.From+1); r.Intn(2) == 0 {
				b.Notes = append(b.Notes, used(from, from+r.Intn(n.To-from+1)))
			}
		}
		r.Shuffle(len(b.Notes), func(i, j int) { b.Notes[i], b.Notes[j] = b.Notes[j], b.Notes[i] })
		if k.isTruth(what) && len(b.Notes) <= api.BandNotes {
			return b, what
		}
	}
}

// TestWhatHappened is of P8.9.
func TestWhatHappened(t *testing.T) {
	r := rand.New(rand.NewSource(5))
	doubt := 0
	for range 3 * many {
		b, what := happened(r)
		if is, e := band.Right(b); !is || e != api.OK {
			t.Fatalf("Right of %v: %v, %d, but of %v", b, is, e, what)
		}
		gone, torn := 0, 0
		for i, number := range know(b).bands {
			set, e := band.What(b, number)
			if !slices.Contains(bits(set), what[i]) || e != api.OK {
				t.Fatalf("What of %v, %d: %d, %d, but it is %d", b, number, set, e, what[i])
			}
			if len(bits(set)) > 1 {
				doubt++
			}
			switch what[i] {
			case missing:
				gone++
			case api.BandSpoiled:
				torn++
			}
		}
		if s, e := band.Missing(b); gone < s.Low || gone > s.High || e != api.OK {
			t.Fatalf("Missing of %v: %v, %d, but it is %d", b, s, e, gone)
		}
		rate := r.Intn(api.BandRate + 1)
		if s, e := band.Due(b, rate); rate*(gone-torn) < s.Low || rate*(gone-torn) > s.High || e != api.OK {
			t.Fatalf("Due of %v for %d: %v, %d, but it is %d", b, rate, s, e, rate*(gone-torn))
		}
	}
	if doubt < many {
		t.Errorf("only %d bands are in doubt", doubt)
	}
}

// notedAs returns how many bands are in notes of a kind.
func notedAs(b api.BandBook, kind int) int {
	n := 0
	for _, x := range b.Notes {
		if x.Kind == kind {
			n += len(numbersOf(x))
		}
	}
	return n
}

// TestTogether is of P8.10.
func TestTogether(t *testing.T) {
	some := 0
	for _, b := range append(someBooks(many), largeBooks(many)...) {
		missing, e := band.Missing(b)
		if e != api.OK {
			continue
		}
		k := know(b)
		s, _ := band.Used(b)
		rest := len(k.bands) - notedAs(b, api.BandSpoiled) - notedAs(b, api.BandLeft)
		// With the most that are missing the fewest were used, or just those that were noted; with the fewest the most, or all that there were.
		if fewest, most := rest-missing.High, rest-missing.Low; fewest != max(s.Low, notedAs(b, api.BandUsed)) || most != min(s.High, rest) {
			t.Fatalf("Missing of %v: %v, so %d to %d were used, but Used: %v", b, missing, fewest, most, s)
		}
		some++
	}
	if some < many/2 {
		t.Errorf("only %d books can be true", some)
	}
}

// TestOneNoteMore is of P8.11.
func TestOneNoteMore(t *testing.T) {
	r := rand.New(rand.NewSource(6))
	fewer, less := 0, 0
	for _, b := range append(someBooks(many), largeBooks(many)...) {
		gaps, _ := band.Gaps(b)
		before, e := band.Missing(b)
		if len(gaps) == 0 || len(b.Notes) == api.BandNotes {
			continue
		}
		g := gaps[r.Intn(len(gaps))]
		from := g.First + r.Intn(g.Many)
		c := withNotes(b, append(slices.Clone(b.Notes), used(from, from+r.Intn(g.First+g.Many-from)))...)
		after, f := band.Missing(c)
		if f != api.OK {
			continue
		}
		if after.Low < before.Low || after.High > before.High || e != api.OK {
			t.Fatalf("Missing of %v: %v, %d, and of %v: %v", b, before, e, c, after)
		}
		if after != before {
			fewer++
		}
		for _, number := range know(b).bands {
			was, _ := band.What(b, number)
			is, e := band.What(c, number)
			if is&^was != 0 || e != api.OK {
				t.Fatalf("What of %v, %d: %d, and of %v: %d, %d", b, number, was, c, is, e)
			}
			if is != was {
				less++
			}
		}
	}
	if fewer < 20 || less < 20 {
		t.Errorf("only %d times there are other numbers, and %d times less can be of a band", fewer, less)
	}
}

// TestMoreByHand is of P8.13.
func TestMoreByHand(t *testing.T) {
	fewer := 0
	for _, b := range append(someBooks(many), largeBooks(many)...) {
		byHand, _ := fill.ByHand(b.Fill, b.Plan)
		for more := len(byHand) + 1; more <= len(b.Plan); more++ {
			b, c := closed(len(b.Plan), len(byHand), b.Rolls, b.Notes...), closed(len(b.Plan), more, b.Rolls, b.Notes...)
			before, e := band.Missing(b)
			after, f := band.Missing(c)
			if e == api.OK && (after.Low > before.Low || after.High > before.High || f != api.OK) {
				t.Fatalf("Missing of %v: %v, %d, and of %v: %v, %d", b, before, e, c, after, f)
			}
			if e == api.OK && after != before {
				fewer++
			}
		}
	}
	if fewer < many/4 {
		t.Errorf("only %d times fewer are missing", fewer)
	}
}
