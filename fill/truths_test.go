package fill_test

import (
	"math/rand"
	"slices"
	"testing"

	"lucifer/api"
	"lucifer/fill"
)

// The tests in this file hold the package against the definitions, and against the chapter's properties, on many books.

const many = 400

// TestTruths is of P5.1 to P5.3.
func TestTruths(t *testing.T) {
	kinds, some := map[int]int{}, map[bool]int{}
	books := append(someBooks(many, 5, 2), someBooks(many/4, 3, api.FillWide)...)
	r := rand.New(rand.NewSource(2))
	for i := range many {
		books = append(books, evenBook(r, 1+i%5, 1+i%3))
		books = append(books, label(20, r.Intn(6), r.Intn(6), 2, someHand(r, 20, 10), someHand(r, 10, 5), someHand(r, 10, 5)))
	}
	for _, b := range books {
		for from := range len(b.Hands) + 1 {
			for end := from; end <= len(b.Hands); end++ {
				hands := b.Hands[from:end]
				if s, e := fill.Sum(b, from, end); s != sumOf(hands) || e != api.OK {
					t.Fatalf("Sum of %v from %d to %d: %v, %d", b, from, end, s, e)
				}
				want, e := 0, api.ErrFillAsk
				if end > from && end-from <= b.Group {
					want, e = kindOf(b, hands), api.OK
					kinds[want]++
				}
				if n, got := fill.Kind(b, from, end); n != want || got != e {
					t.Fatalf("Kind of %v from %d to %d: %d, %d, not %d, %d", b, from, end, n, got, want, e)
				}
			}
		}
		for n := 1; n <= len(b.Hands); n++ {
			want := anyOf(b, n)
			if is, e := fill.Any(b, n); is != want || e != api.OK {
				t.Fatalf("Any of %v, %d: %v, %d", b, n, is, e)
			}
			some[want]++
		}
	}
	for kind := range 4 {
		if kinds[kind] < many/10 {
			t.Errorf("so many boxes are of each kind: %v", kinds)
		}
	}
	if some[true] < many/4 || some[false] < many/4 {
		t.Errorf("so often any do: %v", some)
	}
}

// listsAround returns all lists of at most so many numbers from -1 to one above that.
func listsAround(n int) [][]int {
	all, longest := [][]int{nil}, [][]int{nil}
	for range n {
		var next [][]int
		for _, list := range longest {
			for number := -1; number <= n+1; number++ {
				next = append(next, append(slices.Clone(list), number))
			}
		}
		longest = next
		all = append(all, longest...)
	}
	return all
}

// TestAllPlans is of P5.4: all lists of numbers that lie around those of a plan are tried out.
func TestAllPlans(t *testing.T) {
	for n := range 6 {
		lists := listsAround(n)
		for group := 1; group <= api.FillGroup; group++ {
			b := label(50, 2, 3, group, slices.Repeat([]api.Span{one(25)}, n)...)
			plans := allPlans(b)
			for _, list := range lists {
				want := slices.ContainsFunc(plans, func(plan []int) bool { return slices.Equal(plan, list) })
				if is, e := fill.IsPlan(b, list); is != want || e != api.OK {
					t.Fatalf("IsPlan of %v, %v: %v, %d", b, list, is, e)
				}
			}
		}
	}
}

// TestBoxesOfPlans is of P5.4, and of P5.9.
func TestBoxesOfPlans(t *testing.T) {
	r := rand.New(rand.NewSource(3))
	right, below := 0, 0
	for _, b := range someBooks(many, 5, 2) {
		for range 5 {
			plan := somePlan(r, b)
			want := byHandOf(b, plan)
			byHand, e := fill.ByHand(b, plan)
			if !slices.Equal(byHand, want) || e != api.OK {
				t.Fatalf("ByHand of %v, %v: %v, not %v, %d", b, plan, byHand, want, e)
			}
			over, e := fill.Over(b, plan)
			if over != overOf(b, plan) || e != api.OK {
				t.Fatalf("Over of %v, %v: %v, %d", b, plan, over, e)
			}
			right += len(plan) - len(byHand)
			if over.Low < 0 {
				below++
			}
			for _, truth := range allTruths(b.Hands) {
				for i, numbers := range parts(truth, plan) {
					if n := total(numbers); !slices.Contains(byHand, i) && (tooFew(b, n) || tooMany(b, n)) {
						t.Fatalf("the box %d of %v by %v has %d", i, b, plan, n)
					}
				}
				if n := overIn(b, truth, plan, byHand); n < over.Low || n > over.High {
					t.Fatalf("of %v by %v, %d are given away, not %v", b, plan, n, over)
				}
			}
		}
	}
	if right < many/2 || below < many/4 {
		t.Errorf("only %d boxes are right; %d times less may be given than is promised", right, below)
	}
}

// TestTheBest is of P5.5, P5.6 and P5.10: all plans are tried out.
func TestTheBest(t *testing.T) {
	byHand, apart := map[int]int{}, 0
	for _, b := range append(someBooks(many, api.FillHands, 1), someBooks(many, 6, 2)...) {
		want, most := bestOf(b), boxesOf(b)
		best, e := fill.Best(b)
		if !slices.Equal(best, want.plan) || e != api.OK {
			t.Fatalf("Best of %v: %v, not %v, %d", b, best, want.plan, e)
		}
		boxes, e := fill.Boxes(b)
		if boxes != most || e != api.OK {
			t.Fatalf("Boxes of %v: %d, not %d, %d", b, boxes, most, e)
		}
		fewest, _ := fill.ByHand(b, best)
		for _, plan := range allPlans(b) {
			l, e := fill.ByHand(b, plan)
			if len(l) < len(fewest) || len(plan)-len(l) > boxes || e != api.OK {
				t.Fatalf("of %v, %v has the boxes %v by hand, but the best %v has %v; there are %d", b, plan, l, best, fewest, boxes)
			}
		}
		byHand[len(fewest)]++
		if len(best)-len(fewest) < boxes {
			apart++
		}
	}
	if byHand[0] < many/10 || byHand[1] < many/10 || byHand[2] < many/10 || apart < many/20 {
		t.Errorf("so many boxes must be filled by hand: %v; %d times other plans have more that are right", byHand, apart)
	}
}

// TestWhicheverCome is of P5.11.
func TestWhicheverCome(t *testing.T) {
	r := rand.New(rand.NewSource(4))
	some := map[int]int{}
	for i := range many * 4 {
		b := evenBook(r, 1+i%api.FillHands, 1+i/api.FillHands%api.FillGroup)
		for n := 1; n <= len(b.Hands); n++ {
			if is, e := fill.Any(b, n); !is || e != api.OK {
				continue
			}
			some[n]++
			c := withHands(b, slices.Clone(b.Hands)...)
			r.Shuffle(len(c.Hands), func(i, j int) { c.Hands[i], c.Hands[j] = c.Hands[j], c.Hands[i] })
			if is, e := fill.Any(c, n); !is || e != api.OK {
				t.Fatalf("Any of %v, %d: %v, %d, but not of %v", c, n, is, e, b)
			}
			var plan []int
			for end := n; end <= len(c.Hands); end += n {
				plan = append(plan, end)
				if s, e := fill.Sum(c, end-n, end); tooFew(c, s.Low) || tooMany(c, s.High) || e != api.OK {
					t.Fatalf("%d of %v up to %d have %v, %d", n, c, end, s, e)
				}
			}
			if n > c.Group {
				continue
			}
			c.Hands = c.Hands[:len(plan)*n]
			if l, e := fill.ByHand(c, plan); len(l) > 0 || e != api.OK {
				t.Fatalf("ByHand of %v, %v: %v, %d", c, plan, l, e)
			}
		}
	}
	if some[1] < many/20 || some[2] < many/20 || some[3] < many/20 || some[4] < many/20 {
		t.Errorf("so often so many make a box: %v", some)
	}
}

// easier returns books that are a book with a label that allows more, or with a handful of which more is known.
func easier(r *rand.Rand, b api.FillBook) []api.FillBook {
	less, more := b, b
	less.Less = min(b.Less+1+r.Intn(5), b.Promise-1, api.FillWithin)
	more.More = min(b.More+1+r.Intn(5), api.FillWithin)
	books := []api.FillBook{less, more}
	for i, h := range b.Hands {
		low := h.Low + r.Intn(h.High-h.Low+1)
		books = append(books, knowing(b, i, to(low, low+r.Intn(h.High-low+1))))
	}
	return books
}

// TestEasier is of P5.12.
func TestEasier(t *testing.T) {
	r := rand.New(rand.NewSource(5))
	fewer := 0
	for _, b := range someBooks(many, api.FillHands, 4) {
		best, _ := fill.Best(b)
		before, e := fill.ByHand(b, best)
		if e != api.OK {
			t.Fatalf("ByHand of %v, %v: %d", b, best, e)
		}
		for _, c := range easier(r, b) {
			best, _ := fill.Best(c)
			after, e := fill.ByHand(c, best)
			if len(after) > len(before) || e != api.OK {
				t.Fatalf("of %v the boxes %v must be filled by hand, of %v %v, %d", b, before, c, after, e)
			}
			if len(after) < len(before) {
				fewer++
			}
		}
	}
	if fewer < many/10 {
		t.Errorf("only %d books have fewer by hand", fewer)
	}
}

// TestSums is of P5.13.
func TestSums(t *testing.T) {
	r := rand.New(rand.NewSource(6))
	for _, b := range someBooks(many, api.FillHands, api.FillWide) {
		least, most := b, b
		for i, h := range b.Hands {
			least, most = knowing(least, i, one(h.Low)), knowing(most, i, one(h.High))
		}
		for from := range len(b.Hands) + 1 {
			for end := from; end <= len(b.Hands); end++ {
				s, e := fill.Sum(b, from, end)
				low, f := fill.Sum(least, from, end)
				high, g := fill.Sum(most, from, end)
				if low != one(s.Low) || high != one(s.High) || e != api.OK || f != api.OK || g != api.OK {
					t.Fatalf("Sum of %v from %d to %d: %v, %d, but in truths %v, %d, and %v, %d", b, from, end, s, e, low, f, high, g)
				}
			}
		}
		var all api.Span
		from := 0
		for _, end := range somePlan(r, b) {
			s, _ := fill.Sum(b, from, end)
			all = to(all.Low+s.Low, all.High+s.High)
			from = end
		}
		if s, e := fill.Sum(b, 0, len(b.Hands)); s != all || e != api.OK {
			t.Fatalf("Sum of %v: %v, %d, but of all boxes %v", b, s, e, all)
		}
	}
}

// closeBook returns a valid book in which one or two handfuls are right alone or with another one, as they are counted.
func closeBook(r *rand.Rand, hands int) api.FillBook {
	low := 1 + r.Intn(4)/3
	b := label(10, 10-low, r.Intn(4)/3, 2)
	for range hands {
		b.Hands = append(b.Hands, one(10-r.Intn(3)/2))
	}
	for range min(hands, 1+r.Intn(2)) {
		b.Hands[r.Intn(hands)] = to(0, r.Intn(low+2))
	}
	return b
}

// TestWhichHand is of P5.7 and P5.14.
func TestWhichHand(t *testing.T) {
	r := rand.New(rand.NewSource(7))
	asked := map[int]int{}
	for i := range many * 2 {
		b := closeBook(r, i%8)
		if i%9 == 0 {
			b = someBook(r, i/9%6, 3)
		}
		want, e := askOf(b)
		hand, got := fill.Ask(b)
		if hand != want || got != e {
			t.Fatalf("Ask of %v: %d, %d, not %d, %d", b, hand, got, want, e)
		}
		if e != api.OK {
			continue
		}
		asked[hand]++
		least := slices.Min(worstOf(b))
		for n := b.Hands[hand].Low; n <= b.Hands[hand].High; n++ {
			c := knowing(b, hand, one(n))
			best, _ := fill.Best(c)
			if l, e := fill.ByHand(c, best); len(l) > least || e != api.OK {
				t.Fatalf("with %d in the handful %d of %v the boxes %v must be filled by hand, of another one no more than %d, %d", n, hand, b, l, least, e)
			}
		}
	}
	for hand := range 5 {
		if asked[hand] < many/40 {
			t.Errorf("so often each handful is asked for: %v", asked)
		}
	}
}
