package yard_test

import (
	"math/rand"
	"slices"
	"testing"

	"lucifer/api"
	"lucifer/yard"
)

// The tests in this file hold the package against the definitions, and against the chapter's properties, on many yards.

const many = 400

// TestTruths is of P6.1, P6.2, P6.4 and P6.6: all truths are tried out.
func TestTruths(t *testing.T) {
	r := rand.New(rand.NewSource(2))
	var nears, serves, allows [3]int
	for range many {
		b := tinyBook(r)
		n := len(b.Lots)
		choices := allChoices(n)
		var near [api.YardLots][api.YardLots]int
		var served [api.YardLots]int
		allowed, least := make([]int, len(choices)), make([]int, len(choices))
		all, most := 0, 0
		for truth := range allTruths(b) {
			for i := range n {
				if servedIn(b, truth, i) {
					served[i]++
				}
				for k := i + 1; k < n; k++ {
					if nearIn(b, truth, i, k) {
						near[i][k]++
					}
				}
			}
			for i, choice := range choices {
				goods := goodsIn(truth, choice)
				if all == 0 || goods < least[i] {
					least[i] = goods
				}
				if allowedIn(b, truth, choice) {
					allowed[i]++
					most = max(most, goods)
				}
			}
			all++
		}
		for i := range n {
			got, e := yard.Served(b, i)
			if want := grade(served[i], all); got != want || e != api.OK {
				t.Fatalf("Served of %v, %d: %d, not %d, %d", b, i, got, want, e)
			}
			serves[got]++
			for k := i + 1; k < n; k++ {
				got, e := yard.Near(b, i, k)
				back, f := yard.Near(b, k, i)
				if want := grade(near[i][k], all); got != want || back != want || e != api.OK || f != api.OK {
					t.Fatalf("Near of %v, %d, %d: %d, %d, not %d, %d, %d", b, i, k, got, back, want, e, f)
				}
				nears[got]++
			}
		}
		sure := 0
		for i, choice := range choices {
			got, e := yard.Allowed(b, choice)
			if want := grade(allowed[i], all); got != want || e != api.OK {
				t.Fatalf("Allowed of %v, %v: %d, not %d, %d", b, choice, got, want, e)
			}
			if len(choice) > 1 {
				allows[got]++
			}
			pairs, lots, e := yard.Breaks(b, choice)
			if none := len(pairs) == 0 && len(lots) == 0; none != (allowed[i] == all) || e != api.OK {
				t.Fatalf("Breaks of %v, %v: %v, %v, %d, but it is allowed in %d of %d truths", b, choice, pairs, lots, e, allowed[i], all)
			}
			if allowed[i] == all {
				sure = max(sure, least[i])
			}
		}
		if s, e := yard.Goods(b); s != to(sure, most) || e != api.OK {
			t.Fatalf("Goods of %v: %v, not %d to %d, %d", b, s, sure, most, e)
		}
	}
	for n := range 3 {
		if nears[n] < many/20 || serves[n] < many/20 || allows[n] < many/20 {
			t.Errorf("so often each is so: %v, %v, %v", nears, serves, allows)
		}
	}
}

// TestKnown is of P6.1 and P6.2, on yards of up to all lots, doors and buckets.
func TestKnown(t *testing.T) {
	var nears, serves, allows [3]int
	for _, b := range someBooks(many) {
		k := know(b)
		for i := range b.Lots {
			n, e := yard.Served(b, i)
			if n != k.served[i] || e != api.OK {
				t.Fatalf("Served of %v, %d: %d, not %d, %d", b, i, n, k.served[i], e)
			}
			serves[n]++
			for j := range b.Lots {
				if i == j {
					continue
				}
				n, e := yard.Near(b, i, j)
				if n != k.near[i][j] || e != api.OK {
					t.Fatalf("Near of %v, %d, %d: %d, not %d, %d", b, i, j, n, k.near[i][j], e)
				}
				nears[n]++
			}
		}
		for _, choice := range allChoices(len(b.Lots)) {
			n, e := yard.Allowed(b, choice)
			if n != k.allowed(choice) || e != api.OK {
				t.Fatalf("Allowed of %v, %v: %d, not %d, %d", b, choice, n, k.allowed(choice), e)
			}
			allows[n]++
		}
	}
	for n := range 3 {
		if nears[n] < many || serves[n] < many/4 || allows[n] < many {
			t.Errorf("so often each is so: %v, %v, %v", nears, serves, allows)
		}
	}
}

// TestTheBest is of P6.3, P6.4 and P6.11: all choices are tried out.
func TestTheBest(t *testing.T) {
	long, apart := map[int]int{}, 0
	for _, b := range someBooks(many * 3) {
		k := know(b)
		want, goods := k.best(), k.most()
		best, e := yard.Best(b)
		if !slices.Equal(best, want) || e != api.OK {
			t.Fatalf("Best of %v: %v, not %v, %d", b, best, want, e)
		}
		s, e := yard.Goods(b)
		if s != goods || e != api.OK {
			t.Fatalf("Goods of %v: %v, not %v, %d", b, s, goods, e)
		}
		for _, choice := range allChoices(len(b.Lots)) {
			if n, e := yard.Allowed(b, choice); n == 2 && k.goods(choice).Low > s.Low || e != api.OK {
				t.Fatalf("of %v, %v surely has more goods than the best %v, %v, %d", b, choice, best, s, e)
			}
		}
		if n := k.goods(best).Low; n != s.Low {
			t.Fatalf("of %v the best %v has %d, not %d", b, best, n, s.Low)
		}
		long[len(best)]++
		if k.goods(best).High < s.High {
			apart++
		}
	}
	for n := range 4 {
		if long[n] < many/8 {
			t.Errorf("so many lots are in the best choice: %v", long)
		}
	}
	if apart < many/4 {
		t.Errorf("only %d times another choice may have more", apart)
	}
}

// TestAllChoices is of P6.2: all lists of numbers that lie around those of a choice are tried out.
func TestAllChoices(t *testing.T) {
	r := rand.New(rand.NewSource(3))
	for n := 1; n <= 4; n++ {
		b := someBook(r, n, 1)
		choices := allChoices(n)
		lists, longest := [][]int{nil}, [][]int{nil}
		for range n + 1 {
			var next [][]int
			for _, list := range longest {
				for number := -1; number <= n+1; number++ {
					next = append(next, append(slices.Clone(list), number))
				}
			}
			longest = next
			lists = append(lists, longest...)
		}
		for _, list := range lists {
			want := api.ErrYardAsk
			if slices.ContainsFunc(choices, func(choice []int) bool { return slices.Equal(choice, list) }) {
				want = api.OK
			}
			if _, e := yard.Allowed(b, list); e != want {
				t.Fatalf("Allowed of %d lots, %v: %d", n, list, e)
			}
		}
	}
}

// TestWhatCanBeAdded is of P6.5 and P6.6.
func TestWhatCanBeAdded(t *testing.T) {
	added, errors, broken := 0, 0, 0
	for _, b := range someBooks(many) {
		k := know(b)
		for _, choice := range allChoices(len(b.Lots)) {
			var want []int
			f := api.ErrNone
			if k.allowed(choice) == 2 {
				want, f = k.more(choice), api.OK
			} else {
				errors++
			}
			more, e := yard.More(b, choice)
			if !slices.Equal(more, want) || e != f {
				t.Fatalf("More of %v, %v: %v, not %v, %d", b, choice, more, want, e)
			}
			if len(choice) > 0 {
				added += len(more)
			}
			pairs, lots, e := yard.Breaks(b, choice)
			wantPairs, wantLots := k.breaks(choice)
			if !slices.Equal(pairs, wantPairs) || !slices.Equal(lots, wantLots) || e != api.OK {
				t.Fatalf("Breaks of %v, %v: %v, %v, not %v, %v, %d", b, choice, pairs, lots, wantPairs, wantLots, e)
			}
			if len(pairs) > 1 && len(lots) > 1 {
				broken++
			}
		}
	}
	if added < many || errors < many || broken < many {
		t.Errorf("so many lots can be added: %d; so many choices are not allowed: %d; so many are broken in each way: %d", added, errors, broken)
	}
}

// TestOneMoreBucket is of P6.7 and, about the best choice, of P6.14.
func TestOneMoreBucket(t *testing.T) {
	places, fourth := map[int]int{}, 0
	r := rand.New(rand.NewSource(4))
	for i := range many * 3 {
		b := someBook(r, 1+i%api.YardLots, r.Intn(2))
		b.Bucket = r.Intn(6)
		if i%3 == 0 {
			b.Spare = someSpots(r, 3, 8)
			b.Door, b.Bucket = 60, 2+b.Error+r.Intn(6)
		}
		want, f := know(b).place()
		place, e := yard.Place(b)
		if place != want || e != f {
			t.Fatalf("Place of %v: %d, %d, not %d, %d", b, place, e, want, f)
		}
		if e == api.OK {
			places[place]++
			if len(b.Buckets) == api.YardSpots {
				fourth++
			}
		}
		if len(b.Buckets) == api.YardSpots {
			continue
		}
		before, _ := yard.Goods(b)
		for _, s := range someSpots(r, 4, 20) {
			after, e := yard.Goods(withBucket(b, s))
			if after.Low < before.Low || after.High < before.High || e != api.OK {
				t.Fatalf("of %v there are %v, with one more bucket at %v %v, %d", b, before, s, after, e)
			}
		}
	}
	for n := range 3 {
		if places[n] < many/20 {
			t.Errorf("so often each spot is the place: %v", places)
		}
	}
	if fourth < many/20 {
		t.Errorf("only %d times a fourth bucket helps", fourth)
	}
}

// TestWhatMustGo is of P6.8 and P6.13.
func TestWhatMustGo(t *testing.T) {
	long := map[int]int{}
	for i, b := range someBooks(many) {
		k := know(b)
		for j, choice := range allChoices(len(b.Lots)) {
			want := k.clear(choice)
			gone, e := yard.Clear(b, choice)
			if !slices.Equal(gone, want) || e != api.OK {
				t.Fatalf("Clear of %v, %v: %v, not %v, %d", b, choice, gone, want, e)
			}
			long[len(gone)]++
			if i%4 > 0 || j%4 > 0 {
				continue
			}
			if n, e := yard.Allowed(b, without(choice, gone)); n != 2 || e != api.OK {
				t.Fatalf("Allowed of %v, %v without %v: %d, %d", b, choice, gone, n, e)
			}
			for _, fewer := range parts(choice) {
				if len(fewer) == len(gone) {
					break
				}
				if n, e := yard.Allowed(b, without(choice, fewer)); n == 2 || e != api.OK {
					t.Fatalf("of %v, %v without %v is allowed, but Clear tells %v, %d", b, choice, fewer, gone, e)
				}
			}
		}
	}
	for n := range 5 {
		if long[n] < many/4 {
			t.Errorf("so many lots must go: %v", long)
		}
	}
}

// TestAsTheInsurerWantsIt is of P6.10.
func TestAsTheInsurerWantsIt(t *testing.T) {
	r := rand.New(rand.NewSource(5))
	tight := 0
	for _, b := range someBooks(many) {
		best, _ := yard.Best(b)
		goods, e := yard.Goods(b)
		if e != api.OK {
			t.Fatalf("Goods of %v: %d", b, e)
		}
		for range 60 {
			truth := someTruth(r, b)
			if n := goodsIn(truth, best); !allowedIn(b, truth, best) || n < goods.Low {
				t.Fatalf("in the truth %v of %v the best choice %v has %d, not %v", truth, b, best, n, goods)
			}
			for _, choice := range allChoices(len(b.Lots)) {
				n := goodsIn(truth, choice)
				if n > goods.High && allowedIn(b, truth, choice) {
					t.Fatalf("in the truth %v of %v, %v has %d, not %v", truth, b, choice, n, goods)
				}
				if n > goods.High {
					tight++
				}
			}
		}
	}
	if tight < many {
		t.Errorf("only %d choices have too much", tight)
	}
}

// TestParts is of P6.12: parts of what is allowed.
func TestParts(t *testing.T) {
	for _, b := range someBooks(many / 2) {
		for _, choice := range allChoices(len(b.Lots)) {
			n, e := yard.Allowed(b, choice)
			for _, lot := range choice {
				if m, f := yard.Allowed(b, without(choice, []int{lot})); m < n || e != api.OK || f != api.OK {
					t.Fatalf("Allowed of %v, %v: %d, %d, but without %d it is %d, %d", b, choice, n, e, lot, m, f)
				}
			}
		}
	}
}

// TestEasier is of P6.12: a smaller Error or Apart, or a greater Door or Bucket.
func TestEasier(t *testing.T) {
	r := rand.New(rand.NewSource(6))
	newly := 0
	for _, b := range someBooks(many) {
		easier := []api.YardBook{b, b, b, b}
		easier[0].Error = r.Intn(b.Error + 1)
		easier[1].Apart = r.Intn(b.Apart + 1)
		easier[2].Door += r.Intn(8)
		easier[3].Bucket += r.Intn(8)
		for _, choice := range allChoices(len(b.Lots)) {
			before, e := yard.Allowed(b, choice)
			for _, c := range easier {
				after, f := yard.Allowed(c, choice)
				if before == 2 && after != 2 || e != api.OK || f != api.OK {
					t.Fatalf("Allowed of %v, %v: %d, %d, but of %v %d, %d", b, choice, before, e, c, after, f)
				}
				if before < after && after == 2 {
					newly++
				}
			}
		}
	}
	if newly < many {
		t.Errorf("only %d choices are newly allowed", newly)
	}
}
