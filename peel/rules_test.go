package peel_test

import (
	"math"
	"math/rand"
	"reflect"
	"slices"
	"testing"

	"lucifer/api"
	"lucifer/peel"
)

// TestAnyArguments is of P1: no call panics, each error is the one that is named first, and with it all else is zero.
func TestAnyArguments(t *testing.T) {
	numbers := []int{math.MinInt, -1, 0, 1, 2, 3, 6, 7, 12, 13, 23, 24, math.MaxInt}
	r := rand.New(rand.NewSource(2))
	any := func() int { return numbers[r.Intn(len(numbers))] }
	for range 20000 {
		l := api.PeelLog{Size: any()}
		for range r.Intn(9) {
			l.Long = append(l.Long, any())
		}
		for range r.Intn(5) {
			l.Knots = append(l.Knots, knot(to(any(), any()), to(any(), any())))
		}
		if r.Intn(2) == 0 {
			l = someLog(r, api.PeelTurns, api.PeelLong)
		}
		turn, angle, column, cut := any(), any(), any(), []int{any(), any()}[:r.Intn(3)]
		want := wantErrors(l, turn, angle, column, cut)
		for call, got := range allErrors(l, turn, angle, column, cut) {
			if got.e != want[call] || got.e != api.OK && !got.zero {
				t.Fatalf("%s of %v, %d, %d, %d, %v: %v", call, l, turn, angle, column, cut, got)
			}
		}
	}
}

// wantErrors returns of each call the error that it has (none is OK).
func wantErrors(l api.PeelLog, turn, angle, column int, cut []int) map[string]api.Errno {
	want := map[string]api.Errno{}
	if peel.Check(l) != api.OK {
		for call := range allErrors(l, turn, angle, column, cut) {
			want[call] = api.ErrPeel
		}
		return want
	}
	if turn < 0 || turn >= len(l.Long) || angle < 0 || angle > 23 {
		want["Column"] = api.ErrPeelAsk
	}
	if column < 0 || column >= wide(l) {
		want["Knotty"] = api.ErrPeelAsk
	}
	if !slices.ContainsFunc(allFirsts(l, len(cut)), func(c []int) bool { return slices.Equal(c, cut) }) {
		want["Sure"], want["Whole"] = api.ErrPeelAsk, api.ErrPeelAsk
	}
	if len(l.Knots) == 0 {
		want["Ask"] = api.ErrNone
	}
	return want
}

// allFirsts returns all cuttings of so many pieces (2 at most).
func allFirsts(l api.PeelLog, many int) [][]int {
	if many == 0 {
		return [][]int{nil}
	}
	var all [][]int
	for a := 0; a+l.Size <= wide(l); a++ {
		if many == 1 {
			all = append(all, []int{a})
			continue
		}
		for b := a + l.Size; b+l.Size <= wide(l); b++ {
			all = append(all, []int{a, b})
		}
	}
	return all
}

// everything returns all that the package tells of a log.
func everything(l api.PeelLog, cut []int) []any {
	var all []any
	add := func(more ...any) { all = append(all, more...) }
	both := func(x any, e api.Errno) { add(x, e) }
	add(peel.Check(l))
	n, e := peel.Ribbon(l)
	both(n, e)
	for c := -1; c <= n; c++ {
		k, e := peel.Knotty(l, c)
		both(k, e)
	}
	for turn := range len(l.Long) + 1 {
		for angle := range 25 {
			c, e := peel.Column(l, turn, angle)
			both(c, e)
		}
	}
	is, e := peel.IsCut(l, cut)
	both(is, e)
	n, e = peel.Sure(l, cut)
	both(n, e)
	s, e := peel.Whole(l, cut)
	both(s, e)
	best, e := peel.Best(l)
	both(slices.Clone(best), e)
	for _, f := range []func(api.PeelLog) (int, api.Errno){peel.Waste, peel.Hope, peel.Ask} {
		n, e := f(l)
		both(n, e)
	}
	return all
}

// TestSameAgain is of P2.
func TestSameAgain(t *testing.T) {
	logs := someLogs(60)
	for _, l := range wrongLogs() {
		logs = append(logs, l)
	}
	var before [][]any
	for _, l := range logs {
		before = append(before, everything(l, []int{0}))
	}
	for i := len(logs) - 1; i >= 0; i-- {
		if again := everything(logs[i], []int{0}); !reflect.DeepEqual(again, before[i]) {
			t.Errorf("of %v there was %v, and now %v", logs[i], before[i], again)
		}
	}
}

// TestNilAndEmpty is of R3.
func TestNilAndEmpty(t *testing.T) {
	none := api.PeelLog{Long: []int{7, 6}, Size: 2}
	empty := withKnots(none, []api.PeelKnot{}...)
	empty.Knots = []api.PeelKnot{}
	if a, b := everything(none, nil), everything(empty, []int{}); !reflect.DeepEqual(a, b) {
		t.Errorf("%v, %v", a, b)
	}
}

// spare returns a copy of the list that has room behind its end, in which there is something.
func spare[T any](list []T, filler T) []T {
	c := append(slices.Clone(list), filler, filler, filler)
	return c[:len(list)]
}

// TestOnlyRead is of P1.7: arguments are not changed, not even behind their ends.
func TestOnlyRead(t *testing.T) {
	filler := knot(one(11), one(0))
	for _, given := range someLogs(200) {
		l := api.PeelLog{Long: spare(given.Long, 5), Size: given.Size, Knots: spare(given.Knots, filler)}
		cut := spare([]int{0}, 77)
		everything(l, cut)
		if !slices.Equal(l.Long, given.Long) || !slices.Equal(l.Knots, given.Knots) || !slices.Equal(cut, []int{0}) {
			t.Fatalf("%v has become %v, %v", given, l, cut)
		}
		for i := range 3 {
			n, k := len(l.Long)+i, len(l.Knots)+i
			if l.Long[:n+1][n] != 5 || l.Knots[:k+1][k] != filler || cut[:2+i][1+i] != 77 {
				t.Fatalf("behind the ends of %v something was changed", given)
			}
		}
	}
}

// TestNewMemory is of P1.7: results share nothing with arguments, nor with each other.
func TestNewMemory(t *testing.T) {
	l := example()
	want := []int{0, 3, 13, 22}
	first, _ := peel.Best(l)
	second, _ := peel.Best(l)
	for i := range first {
		first[i] = -1
	}
	_ = append(first, -1)
	third, _ := peel.Best(l)
	if !slices.Equal(second, want) || !slices.Equal(third, want) {
		t.Errorf("%v, %v", second, third)
	}
	if !reflect.DeepEqual(l, example()) {
		t.Errorf("the log has become %v", l)
	}
	l.Long[0], l.Knots[0] = 12, knot(one(0), one(0))
	if !slices.Equal(second, want) {
		t.Errorf("the result has become %v", second)
	}
	changed, _ := peel.Best(l)
	if fresh, _ := peel.Best(withKnots(withLong(example(), 12, 9, 8), l.Knots...)); !slices.Equal(changed, fresh) || slices.Equal(changed, want) {
		t.Errorf("the changed log: %v, %v", changed, fresh)
	}
}
