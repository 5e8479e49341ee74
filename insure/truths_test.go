package insure_test

import (
	"math/rand"
	"slices"
	"testing"

	"lucifer/api"
	"lucifer/insure"
)

// The tests in this file hold the package against the definitions, and against the chapter's properties, on many books.

const many = 280

// sameAs fails if the package tells something else of a plan's premium.
func sameAs(t *testing.T, b api.InsureBook, p api.InsurePlan, premium api.Span, causes []api.Span, fits int) {
	t.Helper()
	if s, e := insure.Premium(b, p); s != premium || e != api.OK {
		t.Fatalf("Premium of %v, %v: %v, not %v, %d", b, p, s, premium, e)
	}
	if l, e := insure.Causes(b, p); !slices.Equal(l, causes) || e != api.OK {
		t.Fatalf("Causes of %v, %v: %v, not %v, %d", b, p, l, causes, e)
	}
	if n, e := insure.Fits(b, p); n != fits || e != api.OK {
		t.Fatalf("Fits of %v, %v: %d, not %d, %d", b, p, n, fits, e)
	}
}

// sameFire fails if the package tells something else of what burns with a lot.
func sameFire(t *testing.T, b api.InsureBook, p api.InsurePlan, lot int, surely, perhaps []int, loss api.Span) {
	t.Helper()
	if l, m, e := insure.Burns(b, p, lot); !slices.Equal(l, surely) || !slices.Equal(m, perhaps) || e != api.OK {
		t.Fatalf("Burns of %v, %v, %d: %v, %v, not %v, %v, %d", b, p, lot, l, m, surely, perhaps, e)
	}
	if s, e := insure.Loss(b, p, lot); s != loss || e != api.OK {
		t.Fatalf("Loss of %v, %v, %d: %v, not %v, %d", b, p, lot, s, loss, e)
	}
}

// TestTruths is of P10.2, P10.3, P10.6 and P10.7: all truths are tried out.
func TestTruths(t *testing.T) {
	r := rand.New(rand.NewSource(3))
	fits, wide, perhaps := map[int]int{}, [5]int{}, 0
	for _, b := range tinyBooks(4 * many) {
		p := somePlan(r, b)
		f := factsOf(b, p)
		sameAs(t, b, p, f.premium.Span, f.spans(), grade(f.fitting, f.all))
		fits[grade(f.fitting, f.all)]++
		for i, n := range f.counts {
			if n.Low < n.High {
				wide[i]++
			}
		}
		worst, most := 0, -1
		for _, lot := range p.Choice {
			l, m := f.burns(p.Choice, lot)
			sameFire(t, b, p, lot, l, m, f.losses[lot].Span)
			if len(l) < len(m) {
				perhaps++
			}
			if loss := f.losses[lot].High; loss > most {
				worst, most = lot, loss
			}
		}
		if n, e := insure.Worst(b, p); n != worst || (e == api.OK) != (len(p.Choice) > 0) {
			t.Fatalf("Worst of %v, %v: %d, not %d, %d", b, p, n, worst, e)
		}
	}
	if fits[0] < 20 || fits[1] < 20 || fits[2] < 20 || perhaps < 20 || wide[0] < 20 || wide[1] < 20 || wide[2] < 20 || wide[4] < 20 {
		t.Errorf("so many plans fit: %v; so many lots perhaps burn: %d; so many causes are known between bounds only: %v", fits, perhaps, wide)
	}
}

// TestTruthsOfBuckets is of P10.8: all truths with one more bucket are tried out.
func TestTruthsOfBuckets(t *testing.T) {
	r := rand.New(rand.NewSource(4))
	spares := map[int]int{}
	for _, b := range tinyBooks(6 * many) {
		if truths(withBucket(b, at(0, 0))) > 50000 {
			continue
		}
		p := somePlan(r, b)
		place, least, f := 0, factsOf(b, p).premium.High, api.ErrNone
		for i, s := range b.Yard.Spare {
			if n := factsOf(withBucket(b, s), p).premium.High; n < least {
				place, least, f = i, n, api.OK
			}
		}
		n, e := insure.Bucket(b, p)
		if n != place || e != f {
			t.Fatalf("Bucket of %v, %v: %d, %d, not %d, %d", b, p, n, e, place, f)
		}
		if e == api.OK {
			spares[n]++
		}
	}
	if spares[0] < 20 || spares[1] < 5 {
		t.Errorf("so often a spare spot is the best: %v", spares)
	}
}

// TestPlans is of P10.4, P10.5 and P10.12: all plans of small books are tried out in all truths.
func TestPlans(t *testing.T) {
	for _, b := range tinyBooks(60) {
		if truths(b) > 2000 {
			continue
		}
		var all []rated
		for _, p := range know(b).allPlans() {
			f := factsOf(b, p.InsurePlan)
			all = append(all, rated{p.InsurePlan, f.counts[0].Low, f.premium.High})
		}
		for _, p := range all {
			sameChoices(t, b, all, p.goods, p.asked)
		}
	}
}

// sameChoices fails if the package tells another plan for the goods that are wanted, or for what can be paid.
func sameChoices(t *testing.T, b api.InsureBook, all []rated, want, pay int) (cheapest, most api.InsurePlan) {
	t.Helper()
	best, f := cheapestOf(all, want)
	p, e := insure.Cheapest(b, want)
	if !samePlan(p, best) || e != f {
		t.Fatalf("Cheapest of %v, %d: %v, %d, not %v, %d", b, want, p, e, best, f)
	}
	best, f = mostOf(all, pay)
	q, e := insure.Most(b, pay)
	if !samePlan(q, best) || e != f {
		t.Fatalf("Most of %v, %d: %v, %d, not %v, %d", b, pay, q, e, best, f)
	}
	return p, q
}

// TestKnown is of P10.2, P10.3 and P10.6 to P10.9, with larger books.
func TestKnown(t *testing.T) {
	r := rand.New(rand.NewSource(5))
	fits, spares, wide, perhaps := map[int]int{}, map[int]int{}, 0, 0
	for _, b := range someBooks(many) {
		k := know(b)
		for range 4 {
			p := somePlan(r, b)
			sameAs(t, b, p, k.premium(p), k.causes(p), k.fits(p))
			fits[k.fits(p)]++
			if wet := k.causes(p)[4]; wet.High > wet.Low+1 {
				wide++
			}
			for _, lot := range p.Choice {
				surely, burning := k.burns(p.Choice, lot, 2), k.burns(p.Choice, lot, 1)
				sameFire(t, b, p, lot, surely, burning, k.loss(p.Choice, lot))
				if len(surely) > 1 && len(burning) > len(surely)+1 {
					perhaps++
				}
			}
			want, f := k.worst(p.Choice)
			if n, e := insure.Worst(b, p); n != want || e != f {
				t.Fatalf("Worst of %v, %v: %d, %d, not %d, %d", b, p, n, e, want, f)
			}
			want, f = k.bucket(p)
			n, e := insure.Bucket(b, p)
			if n != want || e != f {
				t.Fatalf("Bucket of %v, %v: %d, %d, not %d, %d", b, p, n, e, want, f)
			}
			if e == api.OK {
				spares[n]++
			}
			parts := 1 + r.Intn(api.InsureParts)
			if l, e := insure.Parts(b, p, parts); !slices.Equal(l, partsOf(k.premium(p).High, parts)) || e != api.OK {
				t.Fatalf("Parts of %v, %v, %d: %v, %d", b, p, parts, l, e)
			}
		}
	}
	if fits[0] < 50 || fits[1] < 50 || fits[2] < 5 || spares[0] < 20 || spares[1] < 20 || spares[2] < 10 || wide < 50 || perhaps < 30 {
		t.Errorf("so many plans fit: %v; so often a spare spot is the best: %v; %d, %d", fits, spares, wide, perhaps)
	}
}

// TestKnownPlans is of P10.4, P10.5 and P10.12, with larger books.
func TestKnownPlans(t *testing.T) {
	r := rand.New(rand.NewSource(6))
	heated, chosen, errors := 0, map[int]int{}, map[api.Errno]int{}
	for i, b := range someBooks(many) {
		if i%2 == 1 && i%40 != 13 {
			continue
		}
		all := know(b).allPlans()
		for range 6 {
			p := all[r.Intn(len(all))]
			want, pay := p.goods+r.Intn(2), max(0, p.asked-r.Intn(2))
			cheapest, most := sameChoices(t, b, all, want, pay)
			for _, q := range []api.InsurePlan{cheapest, most} {
				if slices.ContainsFunc(q.Set, func(n int) bool { return n > 0 }) {
					heated++
				}
				chosen[len(q.Choice)]++
			}
			_, e := insure.Cheapest(b, want)
			_, f := insure.Most(b, pay)
			errors[e]++
			errors[f]++
		}
	}
	if heated < 100 || len(chosen) != api.YardLots+1 || errors[api.ErrNone] < 20 {
		t.Errorf("so many plans need heat: %d, and have so many lots: %v; errors: %v", heated, chosen, errors)
	}
}

// lies reports whether a number lies in a span.
func lies(n int, s api.Span) bool { return s.Low <= n && n <= s.High }

// TestWhatIsAsked is of P10.11 and P10.13: whatever there truly is lies between what is told.
func TestWhatIsAsked(t *testing.T) {
	r := rand.New(rand.NewSource(7))
	fitting, fires := 0, 0
	for _, b := range append(someBooks(many), tinyBooks(many)...) {
		p := somePlan(r, b)
		premium, _ := insure.Premium(b, p)
		causes, _ := insure.Causes(b, p)
		fits, _ := insure.Fits(b, p)
		for range 10 {
			truth := someTruth(r, b)
			n := countsIn(b, truth, p)
			if !lies(asked(b, n), premium) {
				t.Fatalf("of %v, %v %d is asked, and it is told: %v", b, p, asked(b, n), premium)
			}
			for i := range n {
				if !lies(n[i], causes[i]) {
					t.Fatalf("of %v, %v there are %v, and it is told: %v", b, p, n, causes)
				}
			}
			if fits == 2 {
				fitting++
				if asked(b, n) != n[0]*b.Rates.Good+n[3]*b.Rates.Heat {
					t.Fatalf("%v, %v fits, and there are %v", b, p, n)
				}
			}
			for _, lot := range p.Choice {
				surely, perhaps, _ := insure.Burns(b, p, lot)
				loss, _ := insure.Loss(b, p, lot)
				burning := burnIn(b, truth, p.Choice, lot)
				if !within(surely, burning) || !within(burning, perhaps) || !slices.Contains(surely, lot) || !lies(goodsIn(truth, burning), loss) {
					t.Fatalf("of %v, %v, %d there burn %v, and it is told: %v, %v, %v", b, p, lot, burning, surely, perhaps, loss)
				}
				if len(surely) < len(burning) && len(burning) < len(perhaps) {
					fires++
				}
			}
		}
	}
	if fitting < 100 || fires < 100 {
		t.Errorf("%d plans fit, of %d lots more burn than surely do, and fewer than perhaps", fitting, fires)
	}
}

// within reports whether all numbers of a list are in another one.
func within(list, all []int) bool {
	return !slices.ContainsFunc(list, func(n int) bool { return !slices.Contains(all, n) })
}

// TestBothWays is of P10.13: of two lots each burns with the other one, surely and perhaps.
func TestBothWays(t *testing.T) {
	r := rand.New(rand.NewSource(8))
	for _, b := range someBooks(many) {
		p := somePlan(r, b)
		for _, one := range p.Choice {
			surely, perhaps, _ := insure.Burns(b, p, one)
			for _, other := range p.Choice {
				l, m, _ := insure.Burns(b, p, other)
				if slices.Contains(surely, other) != slices.Contains(l, one) || slices.Contains(perhaps, other) != slices.Contains(m, one) {
					t.Fatalf("Burns of %v, %v: of %d: %v, %v; of %d: %v, %v", b, p, one, surely, perhaps, other, l, m)
				}
			}
		}
	}
}

// TestLess is of P10.14.
func TestLess(t *testing.T) {
	r := rand.New(rand.NewSource(9))
	less := map[string]int{}
	lower := func(n int) int { return r.Intn(n + 1) }
	for _, b := range someBooks(many) {
		p := somePlan(r, b)
		before, _ := insure.Premium(b, p)
		cheap, sure := b, b
		cheap.Rates = api.InsureRates{Good: lower(b.Rates.Good), Near: lower(b.Rates.Near), Served: lower(b.Rates.Served), Heat: lower(b.Rates.Heat), Frame: lower(b.Rates.Frame)}
		sure.Yard.Error = lower(b.Yard.Error)
		changed := map[string]api.InsureBook{"rates": cheap, "error": sure}
		if len(b.Yard.Buckets) < api.YardSpots {
			changed["bucket"] = withBucket(b, someSpots(r, 1, 18)[0])
		}
		for name, c := range changed {
			after, e := insure.Premium(c, p)
			if e != api.OK || after.High > before.High {
				t.Fatalf("Premium of %v, %v: %v, but of %v: %v, %d", b, p, before, c, after, e)
			}
			if after.High < before.High {
				less[name]++
			}
		}
	}
	if less["rates"] < 50 || less["error"] < 20 || less["bucket"] < 20 {
		t.Errorf("so often less is asked: %v", less)
	}
}

// TestSumOfParts is of P10.9 and P10.15.
func TestSumOfParts(t *testing.T) {
	r := rand.New(rand.NewSource(10))
	for _, b := range someBooks(50) {
		p := somePlan(r, b)
		premium, _ := insure.Premium(b, p)
		for many := 1; many <= api.InsureParts; many++ {
			parts, e := insure.Parts(b, p, many)
			sum := 0
			for _, n := range parts {
				sum += n
			}
			if e != api.OK || len(parts) != many || sum != premium.High || parts[0]-parts[many-1] > 1 || !slices.IsSortedFunc(parts, func(a, b int) int { return b - a }) {
				t.Fatalf("Parts of %v, %v, %d: %v, %d", b, p, many, parts, e)
			}
		}
	}
}

// TestChosen is of P10.12: no plan with as many goods is cheaper, and none that can be paid has more goods.
func TestChosen(t *testing.T) {
	r := rand.New(rand.NewSource(11))
	for _, b := range someBooks(many) {
		want := r.Intn(20)
		cheapest, e := insure.Cheapest(b, want)
		least, _ := insure.Premium(b, cheapest)
		for range 6 {
			p := somePlan(r, b)
			premium, _ := insure.Premium(b, p)
			causes, _ := insure.Causes(b, p)
			if enough := causes[0].Low >= want; enough && (e != api.OK || premium.High < least.High) {
				t.Fatalf("Cheapest of %v, %d: %v for %v, %d, but %v for %v", b, want, cheapest, least, e, p, premium)
			}
			most, f := insure.Most(b, premium.High)
			goods, _ := insure.Causes(b, most)
			paid, _ := insure.Premium(b, most)
			if f != api.OK || goods[0].Low < causes[0].Low || paid.High > premium.High {
				t.Fatalf("Most of %v, %d: %v, %d, but %v", b, premium.High, most, f, p)
			}
		}
	}
}
