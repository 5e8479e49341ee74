package foreman_test

import (
	"fmt"
	"math/rand"
	"regexp"
	"slices"
	"strings"

	"lucifer/api"
	"lucifer/band"
	"lucifer/fill"
	"lucifer/foreman"
	"lucifer/peel"
	"lucifer/shift"
)

// What follows does lines by the chapter alone, and in another way than the package: the tests hold the package against it.

// forms are what each line looks like.
var forms = func() []*regexp.Regexp {
	var all []*regexp.Regexp
	for _, form := range []string{"knot N N N", "hand N N", "count N N", "note N N N", "free T N", "need N N", "best", "waste", "hope", "knots", "plan", "byhand", "over", "any N", "weigh", "missing", "gaps", "what N", "due N", "turns", "short", "spared", "hire", "allowed T N"} {
		form = strings.NewReplacer("N", "(0|[1-9][0-9]{0,6})", "T", "([^ \n]+)").Replace(form)
		all = append(all, regexp.MustCompile("^"+form+"$"))
	}
	return all
}()

// model is a clerk: his setup, what is known of the knots, and all that he was told.
type model struct {
	setup   api.ForemanSetup
	knots   []api.PeelKnot
	hands   []api.Span
	notes   []api.BandNote
	free    map[string]int
	needs   []int
	journal []string
}

func modelOf(s api.ForemanSetup) *model {
	m := &model{setup: s, knots: slices.Clone(s.Log.Knots), free: map[string]int{}}
	for i, name := range s.Names {
		m.free[name] = s.Shift.Workers[i].Free
	}
	for _, p := range s.Shift.Pastes {
		m.needs = append(m.needs, p.Hours)
	}
	return m
}

// clone returns another clerk who has the same.
func (m *model) clone() *model {
	c := *m
	c.knots, c.hands, c.notes = slices.Clone(m.knots), slices.Clone(m.hands), slices.Clone(m.notes)
	c.needs, c.journal = slices.Clone(m.needs), slices.Clone(m.journal)
	c.free = map[string]int{}
	for name, hours := range m.free {
		c.free[name] = hours
	}
	return &c
}

func (m *model) log() api.PeelLog {
	l := m.setup.Log
	l.Knots = m.knots
	return l
}

func (m *model) boxes() (api.FillBook, []int) {
	b := m.setup.Fill
	b.Hands = m.hands
	plan, _ := fill.Best(b)
	return b, plan
}

func (m *model) bands() api.BandBook {
	b, plan := m.boxes()
	return api.BandBook{Rolls: m.setup.Rolls, Notes: m.notes, Fill: b, Plan: plan}
}

func (m *model) work() api.ShiftBook {
	b := api.ShiftBook{Table: m.setup.Shift.Table}
	for i, p := range m.setup.Shift.Pastes {
		b.Pastes = append(b.Pastes, api.ShiftPaste{Book: p.Book, Hours: m.needs[i]})
	}
	for i, w := range m.setup.Shift.Workers {
		b.Workers = append(b.Workers, api.ShiftWorker{Young: w.Young, Free: m.free[m.setup.Names[i]]})
	}
	return b
}

// isTrue reports whether the book of bands can be true: then no notes must be wrong.
func (m *model) isTrue() bool {
	wrong, e := band.Wrong(m.bands())
	return e == api.OK && len(wrong) == 0
}

// text returns the answer of a list, of a span, of a number, or of whether something is so; and the error.
func text(x any, e api.Errno) (string, api.Errno) {
	if e != api.OK {
		return "", e
	}
	if is, ok := x.(bool); ok {
		x = map[bool]int{true: 1}[is]
	}
	words := regexp.MustCompile("-?[0-9]+").FindAllString(fmt.Sprintf("%v", x), -1)
	if len(words) == 0 {
		return "-", api.OK
	}
	return strings.Join(words, " "), api.OK
}

// parse returns the tokens of a line, and its numbers, and whether it has the form.
func parse(line string) (words []string, n []int, is bool) {
	for _, form := range forms {
		if !form.MatchString(line) || len(line) > 120 {
			continue
		}
		words = strings.Split(line, " ")
		for _, word := range words {
			i := 0
			for _, digit := range word {
				i = 10*i + int(digit-'0')
			}
			n = append(n, i) // of names it is nothing that is asked for
		}
		return words, n, true
	}
	return nil, nil, false
}

// changes reports whether a line with this first token changes something.
func changes(first string) bool {
	return slices.Contains([]string{"knot", "hand", "count", "note", "free", "need"}, first)
}

// do does a line.
func (m *model) do(line string) (string, api.Errno) {
	words, n, is := parse(line)
	if !is {
		return "", api.ErrForemanLine
	}
	if !changes(words[0]) {
		return m.ask(words, n)
	}
	if len(m.journal) == 200 {
		return "", api.ErrFull
	}
	next := m.clone()
	if e := next.change(words, n); e != api.OK {
		return "", e
	}
	next.journal = append(next.journal, line)
	*m = *next
	switch words[0] {
	case "knot":
		best, e := peel.Best(m.log())
		return text(len(best), e)
	case "note":
		return text(band.Missing(m.bands()))
	case "free", "need":
		_, e := shift.Best(m.work())
		return text(e == api.OK, api.OK)
	}
	b, plan := m.boxes()
	byHand, e := fill.ByHand(b, plan)
	return text([]int{len(plan), len(byHand)}, e)
}

// change does what a line changes, and returns its first error.
func (m *model) change(words []string, n []int) api.Errno {
	type doubt struct {
		is bool
		e  api.Errno
	}
	var doubts []doubt
	switch words[0] {
	case "knot":
		if n[1] >= len(m.knots) || n[2] > 23 || n[3] > len(m.setup.Log.Long) {
			return api.ErrRange
		}
		k := m.knots[n[1]]
		doubts = append(doubts, doubt{n[2] < k.Angle.Low || n[2] > k.Angle.High || n[3] < k.First.Low || n[3] > k.First.High, api.ErrForemanFalse})
		m.knots[n[1]] = api.PeelKnot{Angle: one(n[2]), First: one(n[3])}
	case "hand":
		doubts = append(doubts, doubt{n[2] > 200 || n[1] > n[2] || n[2]-n[1] > 10, api.ErrRange}, doubt{len(m.hands) == 8, api.ErrFull})
		m.hands = append(m.hands, to(n[1], n[2]))
	case "count":
		if n[1] >= len(m.hands) || n[2] > 200 {
			return api.ErrRange
		}
		h := m.hands[n[1]]
		doubts = append(doubts, doubt{n[2] < h.Low || n[2] > h.High, api.ErrForemanFalse})
		m.hands[n[1]] = one(n[2])
	case "note":
		doubts = append(doubts, doubt{n[1] > 2 || n[2] < 1 || n[3] > 9999 || n[2] > n[3] || n[3] >= n[2]+30, api.ErrRange}, doubt{len(m.notes) == 8, api.ErrFull})
		m.notes = append(m.notes, api.BandNote{Kind: n[1], From: n[2], To: n[3]})
	case "free":
		_, known := m.free[words[1]]
		doubts = append(doubts, doubt{!known, api.ErrForemanUnknown}, doubt{n[2] > 12, api.ErrRange})
		m.free[words[1]] = n[2]
	case "need":
		if n[1] >= len(m.needs) || n[2] > 40 {
			return api.ErrRange
		}
		m.needs[n[1]] = n[2]
	}
	for _, d := range doubts {
		if d.is {
			return d.e
		}
	}
	if words[0] != "free" && words[0] != "need" && !m.isTrue() {
		return api.ErrForemanFalse
	}
	return api.OK
}

// ask answers a line that asks.
func (m *model) ask(words []string, n []int) (string, api.Errno) {
	b, plan := m.boxes()
	switch words[0] {
	case "best":
		return text(peel.Best(m.log()))
	case "waste":
		return text(peel.Waste(m.log()))
	case "hope":
		return text(peel.Hope(m.log()))
	case "knots":
		return text(peel.Ask(m.log()))
	case "plan":
		return text(plan, api.OK)
	case "byhand":
		return text(fill.ByHand(b, plan))
	case "over":
		return text(fill.Over(b, plan))
	case "any":
		if n[1] == 0 || n[1] > len(m.hands) {
			return "", api.ErrRange
		}
		return text(fill.Any(b, n[1]))
	case "weigh":
		return text(fill.Ask(b))
	}
	return m.askMore(words, n)
}

// askMore answers a line that asks about bands or work.
func (m *model) askMore(words []string, n []int) (string, api.Errno) {
	switch words[0] {
	case "missing":
		return text(band.Missing(m.bands()))
	case "gaps":
		return text(band.Gaps(m.bands()))
	case "what":
		if !slices.ContainsFunc(m.setup.Rolls, func(r api.BandRoll) bool { return n[1] >= r.First && n[1] < r.First+r.Many }) {
			return "", api.ErrRange
		}
		return text(band.What(m.bands(), n[1]))
	case "due":
		if n[1] > 1000 {
			return "", api.ErrRange
		}
		return text(band.Due(m.bands(), n[1]))
	case "turns":
		return text(shift.Best(m.work()))
	case "short":
		return text(shift.Short(m.work()))
	case "spared":
		return text(shift.Spared(m.work()))
	case "hire":
		return text(shift.Hire(m.work()))
	}
	worker := slices.Index(m.setup.Names, words[1])
	if worker < 0 {
		return "", api.ErrForemanUnknown
	}
	if n[2] >= len(m.needs) {
		return "", api.ErrRange
	}
	return text(shift.Allowed(m.work(), worker, n[2]))
}

// has reports whether a clerk has the same as the model.
func (m *model) has(c *foreman.Foreman) bool {
	var free []int
	for _, name := range m.setup.Names {
		free = append(free, m.free[name])
	}
	file := ""
	for _, line := range m.journal {
		file += line + "\n"
	}
	return slices.Equal(c.Hands(), m.hands) && slices.Equal(c.Notes(), m.notes) && slices.Equal(c.Free(), free) &&
		slices.Equal(c.Needs(), m.needs) && slices.Equal(c.Journal(), m.journal) && c.File() == file
}

// everything returns all that a clerk tells.
func everything(c *foreman.Foreman) []string {
	all := []string{fmt.Sprint(c.Hands(), c.Notes(), c.Free(), c.Needs()), c.File()}
	all = append(all, c.Journal()...)
	lines := []string{"best", "waste", "hope", "knots", "plan", "byhand", "over", "weigh", "missing", "gaps", "due 7", "turns", "short", "spared", "hire"}
	for i := range 9 {
		lines = append(lines, fmt.Sprint("any ", i), fmt.Sprint("what ", 100+i), fmt.Sprint("what ", 200+i), fmt.Sprint("what ", i))
	}
	for i := range 3 {
		lines = append(lines, fmt.Sprint("allowed anna ", i), fmt.Sprint("allowed bea ", i))
	}
	for _, line := range lines {
		answer, e := c.Do(line)
		all = append(all, fmt.Sprint(line, ": ", answer, ", ", int(e)))
	}
	return all
}

// someSetup returns a valid setup.
func someSetup(r *rand.Rand) api.ForemanSetup {
	s := example()
	long := 12
	s.Log = api.PeelLog{Size: 1 + r.Intn(4)}
	for range 1 + r.Intn(5) {
		long = max(1, long-r.Intn(3))
		s.Log.Long = append(s.Log.Long, long)
	}
	for range r.Intn(4) {
		angle, turn := r.Intn(24), r.Intn(len(s.Log.Long)+1)
		s.Log.Knots = append(s.Log.Knots, api.PeelKnot{Angle: to(angle, min(23, angle+r.Intn(4))), First: to(turn, min(len(s.Log.Long), turn+r.Intn(2)))})
	}
	s.Fill = api.FillBook{Promise: 10 + r.Intn(60), Less: r.Intn(5), More: r.Intn(6), Group: 1 + r.Intn(4)}
	s.Rolls = nil
	for next, i := 1+r.Intn(3), r.Intn(3); i >= 0; i-- {
		x := roll(next, 1+r.Intn(12))
		s.Rolls = append(s.Rolls, x)
		next += x.Many + r.Intn(3)
	}
	s.Shift.Pastes = s.Shift.Pastes[:1+r.Intn(2)]
	for i := range s.Shift.Pastes {
		s.Shift.Pastes[i].Hours = r.Intn(15)
	}
	s.Shift.Workers, s.Names = nil, nil
	for i := range r.Intn(4) {
		s.Shift.Workers = append(s.Shift.Workers, api.ShiftWorker{Young: r.Intn(3) == 0, Free: r.Intn(13)})
		s.Names = append(s.Names, []string{"anna", "bea", "carl"}[i])
	}
	if r.Intn(4) == 0 {
		s.Shift.Table = s.Shift.Table[:1]
	}
	return s
}

// someLine returns a line, which often can be done by a clerk.
func someLine(r *rand.Rand, m *model) string {
	near := func(s api.Span) int { return max(0, s.Low+r.Intn(s.High-s.Low+2)-r.Intn(8)/7) }
	switch pick := r.Intn(20); {
	case pick < 3 && len(m.knots) > 0:
		i := r.Intn(len(m.knots))
		return fmt.Sprintf("knot %d %d %d", i, near(m.knots[i].Angle), near(m.knots[i].First))
	case pick < 6:
		least := max(0, m.setup.Fill.Promise/(1+r.Intn(3))-r.Intn(8))
		return fmt.Sprintf("hand %d %d", least, least+r.Intn(11))
	case pick < 8 && len(m.hands) > 0:
		i := r.Intn(len(m.hands))
		return fmt.Sprintf("count %d %d", i, near(m.hands[i]))
	case pick < 11:
		from := 1 + r.Intn(25)
		return fmt.Sprintf("note %d %d %d", r.Intn(3), from, from+r.Intn(2)*r.Intn(4))
	case pick < 13:
		return fmt.Sprintf("free %s %d", []string{"anna", "bea", "carl", "dora"}[r.Intn(4)], r.Intn(14))
	case pick < 15:
		return fmt.Sprintf("need %d %d", r.Intn(3), r.Intn(20))
	}
	lines := []string{"best", "waste", "hope", "knots", "plan", "byhand", "over", "weigh", "missing", "gaps", "turns", "short", "spared", "hire"}
	for _, first := range []string{"any", "what", "due", "allowed anna", "allowed bea"} {
		lines = append(lines, fmt.Sprint(first, " ", r.Intn(10)), fmt.Sprint(first, " ", r.Intn(30)))
	}
	return lines[r.Intn(len(lines))]
}
