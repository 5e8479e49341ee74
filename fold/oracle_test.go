package fold_test

import (
	"math/rand"
	"slices"

	"lucifer/api"
)

// What follows computes from the definitions alone, by trying out everything: the tests hold the package against it.

// allTruths returns of each truth how far each flap reaches.
func allTruths(b api.FoldSheet) [][]int {
	all := [][]int{nil}
	for _, f := range b.Flaps {
		var next [][]int
		for _, before := range all {
			for reach := f.Reach.Low; reach <= f.Reach.High; reach++ {
				next = append(next, append(slices.Clone(before), reach))
			}
		}
		all = next
	}
	return all
}

// isCovered reports whether a flap that reaches so far covers a square.
func isCovered(b api.FoldSheet, f api.FoldFlap, reach, column, row int) bool {
	along, from := row, column // how far from the own side the square is
	switch f.Side {
	case api.FoldRight:
		from = b.Wide - 1 - column
	case api.FoldTop:
		along, from = column, row
	case api.FoldBottom:
		along, from = column, b.High-1-row
	}
	return along >= f.Along.Low && along <= f.Along.High && from < reach
}

// covered returns of each square whether a flap that reaches so far covers it.
func covered(b api.FoldSheet, f api.FoldFlap, reach int) []bool {
	var squares []bool
	for row := range b.High {
		for column := range b.Wide {
			squares = append(squares, isCovered(b, f, reach, column, row))
		}
	}
	return squares
}

// meets tells of each two flaps whether they meet.
type meets [api.FoldFlaps][api.FoldFlaps]bool

// allMeets returns what meets in the truths, each such answer once.
func allMeets(b api.FoldSheet) []meets {
	squares := map[[2]int][]bool{}
	for i, f := range b.Flaps {
		for reach := f.Reach.Low; reach <= f.Reach.High; reach++ {
			squares[[2]int{i, reach}] = covered(b, f, reach)
		}
	}
	met := map[[4]int]bool{}
	for one, c := range squares {
		for other, d := range squares {
			if one[0] == other[0] {
				continue
			}
			for i := range c {
				if c[i] && d[i] {
					met[[4]int{one[0], one[1], other[0], other[1]}] = true
					break
				}
			}
		}
	}
	var all []meets
	seen := map[meets]bool{}
	for _, truth := range allTruths(b) {
		var m meets
		for one := range truth {
			for other := range truth {
				m[one][other] = met[[4]int{one, truth[one], other, truth[other]}]
			}
		}
		if !seen[m] {
			seen[m] = true
			all = append(all, m)
		}
	}
	return all
}

// isSo tells of something whether it is so in all truths, in some, or in none.
func isSo(all []meets, is func(m meets) bool) int {
	n := 0
	for _, m := range all {
		if is(m) {
			n++
		}
	}
	switch n {
	case len(all):
		return 2
	case 0:
		return 0
	}
	return 1
}

func meetOf(all []meets, one, other int) int {
	return isSo(all, func(m meets) bool { return m[one][other] })
}

func doesOf(rules []api.FoldRule, all []meets, order []int) int {
	return isSo(all, func(m meets) bool {
		return !slices.ContainsFunc(rules, func(r api.FoldRule) bool {
			return m[r.Over][r.Under] && slices.Index(order, r.Over) < slices.Index(order, r.Under)
		})
	})
}

// lists returns all lists of so many different ones of some numbers from 0 on, in their order.
func lists(numbers, many int) [][]int {
	all := [][]int{nil}
	for range many {
		var next [][]int
		for _, before := range all {
			for n := range numbers {
				if !slices.Contains(before, n) {
					next = append(next, append(slices.Clone(before), n))
				}
			}
		}
		all = next
	}
	return all
}

func allOrders(b api.FoldSheet) [][]int { return lists(len(b.Flaps), len(b.Flaps)) }

// ordersOf takes all orders and returns those that do in each truth.
func ordersOf(rules []api.FoldRule, all []meets, orders [][]int) [][]int {
	return slices.DeleteFunc(slices.Clone(orders), func(order []int) bool { return doesOf(rules, all, order) < 2 })
}

// counted returns the rules whose flaps meet in some truth.
func counted(rules []api.FoldRule, all []meets) []api.FoldRule {
	return slices.DeleteFunc(slices.Clone(rules), func(r api.FoldRule) bool { return meetOf(all, r.Over, r.Under) == 0 })
}

func isRing(rules []api.FoldRule, list []int) bool {
	for i, f := range list {
		before := list[(i+len(list)-1)%len(list)]
		if !slices.Contains(rules, over(f, before)) {
			return false
		}
	}
	return list[0] == slices.Min(list)
}

func ringOf(b api.FoldSheet, all []meets) []int {
	rules := counted(b.Rules, all)
	for many := 2; many <= len(b.Flaps); many++ {
		for _, list := range lists(len(b.Flaps), many) {
			if isRing(rules, list) {
				return list
			}
		}
	}
	return nil
}

// roundsOf returns the rounds of a sheet that folds: it tries out all rounds of each flap.
func roundsOf(b api.FoldSheet, all []meets) int {
	rules := counted(b.Rules, all)
	for rounds := 1; ; rounds++ {
		each := [][]int{nil}
		for range b.Flaps {
			var next [][]int
			for _, before := range each {
				for round := range rounds {
					next = append(next, append(slices.Clone(before), round))
				}
			}
			each = next
		}
		for _, list := range each {
			if !slices.ContainsFunc(rules, func(r api.FoldRule) bool { return list[r.Under] >= list[r.Over] }) {
				return rounds
			}
		}
	}
}

// longestRow returns how many flaps the longest row has of which each one must lie over the one before.
func longestRow(b api.FoldSheet, all []meets) int {
	rules := counted(b.Rules, all)
	longest := 0
	for many := 1; many <= len(b.Flaps); many++ {
		for _, list := range lists(len(b.Flaps), many) {
			row := true
			for i := 1; i < many; i++ {
				row = row && slices.Contains(rules, over(list[i], list[i-1]))
			}
			if row {
				longest = many
			}
		}
	}
	return longest
}

// foldsOf reports whether some order does in each truth.
func foldsOf(rules []api.FoldRule, all []meets, orders [][]int) bool {
	return slices.ContainsFunc(orders, func(order []int) bool { return doesOf(rules, all, order) == 2 })
}

func shorterOf(b api.FoldSheet, flap int) (int, api.Errno) {
	reach, orders := b.Flaps[flap].Reach, allOrders(b)
	for high := reach.High; high >= reach.Low; high-- {
		if foldsOf(b.Rules, allMeets(reaches(b, flap, to(reach.Low, high))), orders) {
			return reach.High - high, api.OK
		}
	}
	return 0, api.ErrNone
}

// others returns the rules but those of a list.
func others(rules []api.FoldRule, gone []int) []api.FoldRule {
	var left []api.FoldRule
	for i, r := range rules {
		if !slices.Contains(gone, i) {
			left = append(left, r)
		}
	}
	return left
}

// chosen returns all increasing lists of numbers below an end: those of fewer numbers first, of as many in their order.
func chosen(end int) [][]int {
	all := [][]int{nil}
	for i := 0; i < len(all); i++ {
		from := 0
		if n := len(all[i]); n > 0 {
			from = all[i][n-1] + 1
		}
		for n := from; n < end; n++ {
			all = append(all, append(slices.Clone(all[i]), n))
		}
	}
	return all
}

func dropOf(b api.FoldSheet, all []meets) []int {
	orders := allOrders(b)
	gone := chosen(len(b.Rules))
	return gone[slices.IndexFunc(gone, func(list []int) bool { return foldsOf(others(b.Rules, list), all, orders) })]
}

// some returns a span of numbers from least to most, its ends at most so far apart.
func some(r *rand.Rand, least, most, far int) api.Span {
	low := least + r.Intn(most-least+1)
	return to(low, min(low+r.Intn(far+1), most))
}

// someFlap returns a flap of a sheet, the ends of whose reach are at most so far apart.
func someFlap(r *rand.Rand, b api.FoldSheet, far int) api.FoldFlap {
	side, deep, long := r.Intn(4), b.Wide, b.High
	if side >= api.FoldTop {
		deep, long = b.High, b.Wide
	}
	reach := some(r, 1, deep, far)
	if r.Intn(3) > 0 { // about as far as one from the other side
		low := max(1, deep/2-r.Intn(2))
		reach = to(low, min(low+r.Intn(far+1), deep))
	}
	return flap(side, reach, some(r, 0, long-1, long))
}

// someRules returns up to so many rules, or a ring with few others.
func someRules(r *rand.Rand, flaps, most int) []api.FoldRule {
	var all, rules []api.FoldRule
	for one := range flaps {
		for other := range flaps {
			if one != other {
				all = append(all, over(one, other))
			}
		}
	}
	r.Shuffle(len(all), func(i, j int) { all[i], all[j] = all[j], all[i] })
	if flaps > 1 && r.Intn(3) == 0 {
		ring := r.Perm(flaps)[:2+r.Intn(flaps-1)]
		for i, f := range ring {
			rules = append(rules, over(f, ring[(i+1)%len(ring)]))
		}
		most = 2
	}
	for _, rule := range all[:min(len(all), r.Intn(most+1))] {
		if !slices.Contains(rules, rule) && len(rules) < api.FoldRules {
			rules = append(rules, rule)
		}
	}
	r.Shuffle(len(rules), func(i, j int) { rules[i], rules[j] = rules[j], rules[i] })
	return rules
}

// someSheet returns a valid sheet of so many flaps.
func someSheet(r *rand.Rand, flaps int) api.FoldSheet {
	b := api.FoldSheet{Wide: 2 + r.Intn(7), High: 2 + r.Intn(7)}
	if r.Intn(6) == 0 {
		b.Wide, b.High = 1, 1 // all of them meet
	}
	far := 1 + r.Intn(3)
	if flaps > 5 {
		far = 1 // for there to be no more truths
	}
	for range flaps {
		f := someFlap(r, b, far)
		if r.Intn(2) == 0 { // all along its side
			f.Along = to(0, b.High-1)
			if f.Side >= api.FoldTop {
				f.Along = to(0, b.Wide-1)
			}
		}
		b.Flaps = append(b.Flaps, f)
	}
	b.Rules = someRules(r, flaps, 2+r.Intn(api.FoldRules-1))
	return b
}

// someSheets returns the same sheets at each call: of one flap to so many.
func someSheets(n, flaps int) []api.FoldSheet {
	r := rand.New(rand.NewSource(1))
	var sheets []api.FoldSheet
	for i := range n {
		sheets = append(sheets, someSheet(r, 1+i%flaps))
	}
	return sheets
}
