package foreman_test

import (
	"slices"
	"strings"
	"testing"

	"lucifer/api"
	"lucifer/foreman"
)

func to(low, high int) api.Span { return api.Span{Low: low, High: high} }

func one(n int) api.Span { return to(n, n) }

func roll(first, many int) api.BandRoll { return api.BandRoll{First: first, Many: many} }

// paste is that of the chapter on pastes, with so many parts of the salt 2 at most, and a trial that it passes.
func paste(most int) api.PasteBook {
	return api.PasteBook{
		Salts:    []api.PasteSalt{{Power: 3, Amount: to(2, 4)}, {Power: 5, Amount: to(1, 2)}, {Power: 2, Amount: to(0, most)}},
		Pairs:    []api.PastePair{{One: 0, Other: 1, More: 10}, {One: 1, Other: 2, More: 20}},
		Surfaces: []api.PasteSurface{{Rub: to(70, 80), Damp: to(5, 10)}, {Rub: to(20, 30), Damp: to(0, 5)}, {Rub: to(45, 50), Damp: to(10, 12)}},
		Need:     75,
		Trials:   []api.PasteTrial{{Surface: 0, Lit: true}},
	}
}

// example is the setup of the chapter's examples, changed.
func example(changes ...func(s *api.ForemanSetup)) api.ForemanSetup {
	s := api.ForemanSetup{
		Log:   api.PeelLog{Long: []int{10, 9, 8}, Size: 3, Knots: []api.PeelKnot{{Angle: to(5, 7), First: one(1)}, {Angle: one(20), First: to(0, 1)}}},
		Fill:  api.FillBook{Promise: 50, Less: 2, More: 3, Group: 3},
		Rolls: []api.BandRoll{roll(101, 6), roll(201, 5)},
		Shift: api.ShiftBook{
			Pastes:  []api.ShiftPaste{{Book: paste(1), Hours: 6}, {Book: paste(0), Hours: 9}},
			Workers: []api.ShiftWorker{{Free: 10}, {Young: true, Free: 8}, {Free: 3}},
			Table:   []api.ShiftRow{{Power: 40, Hours: 8}, {Power: 60, Hours: 4}},
		},
		Names: []string{"anna", "bea", "carl"},
	}
	for _, change := range changes {
		change(&s)
	}
	return s
}

func rolls(l ...api.BandRoll) func(s *api.ForemanSetup) {
	return func(s *api.ForemanSetup) { s.Rolls = l }
}

func knots(l ...api.PeelKnot) func(s *api.ForemanSetup) {
	return func(s *api.ForemanSetup) { s.Log.Knots = l }
}

func names(l ...string) func(s *api.ForemanSetup) {
	return func(s *api.ForemanSetup) { s.Names = l }
}

// nobody is that there are no workers.
func nobody(s *api.ForemanSetup) { s.Shift.Workers, s.Names = nil, nil }

// shelf is that there are bands enough for all that there can be.
func shelf(s *api.ForemanSetup) { s.Rolls = []api.BandRoll{roll(1, 20), roll(21, 20), roll(9980, 20)} }

// open returns a new clerk who has done some lines.
func open(t *testing.T, s api.ForemanSetup, lines ...string) *foreman.Foreman {
	t.Helper()
	c, e := foreman.New(s)
	if e != api.OK || c == nil {
		t.Fatalf("New: %v, %d", c, e)
	}
	for _, line := range lines {
		if a, e := c.Do(line); e != api.OK {
			t.Fatalf("%q: %q, %d", line, a, e)
		}
	}
	return c
}

// said is a line, and its answer or its error.
type said struct {
	line, answer string
	e            api.Errno
}

// play does lines, and compares what is answered.
func play(t *testing.T, c *foreman.Foreman, lines ...said) {
	t.Helper()
	for _, x := range lines {
		if a, e := c.Do(x.line); a != x.answer || e != x.e {
			t.Errorf("%q: %q, %d; not %q, %d", x.line, a, e, x.answer, x.e)
		}
	}
}

// refuse does lines that all have an error, and changes nothing by them.
func refuse(t *testing.T, c *foreman.Foreman, e api.Errno, lines ...string) {
	t.Helper()
	before := everything(c)
	for _, line := range lines {
		play(t, c, said{line, "", e})
	}
	if after := everything(c); !slices.Equal(after, before) {
		t.Errorf("after %q there is %q, not %q", lines, after, before)
	}
}

// TestExamples is of the chapter's examples.
func TestExamples(t *testing.T) {
	const no, unknown = api.ErrForemanFalse, api.ErrForemanUnknown
	c := open(t, example())
	play(t, c, []said{
		{"best", "0 3 13 22", 0}, {"waste", "15", 0}, {"hope", "7", 0}, {"knots", "0", 0},
		{"knot 1 20 1", "5", 0}, {"knot 0 8 1", "", no}, {"knot 0 5 1", "5", 0}, {"best", "0 3 6 12 21", 0}, {"knots", "0", 0},
		{"hand 24 26", "1 1", 0}, {"hand 24 26", "1 0", 0}, {"hand 16 18", "2 1", 0}, {"hand 16 17", "2 1", 0}, {"hand 15 18", "2 1", 0},
		{"plan", "2 5", 0}, {"byhand", "1", 0}, {"over", "-2 2", 0}, {"any 2", "0", 0}, {"weigh", "0", 0},
		{"note 0 101 102", "8 9", 0}, {"note 1 104 104", "7 8", 0}, {"note 2 204 205", "5 6", 0}, {"note 2 105 106", "3 4", 0}, {"missing", "3 4", 0},
		{"note 0 201 203", "", no}, {"count 2 17", "2 0", 0}, {"count 2 18", "", no},
		{"missing", "4 4", 0}, {"what 103", "8", 0}, {"gaps", "103 1 201 3", 0}, {"due 10", "30 30", 0},
		{"turns", "0 0 4 0 1 6 1 0 2 1 1 3", 0}, {"short", "", api.ErrNone}, {"spared", "2", 0}, {"hire", "0", 0}, {"allowed bea 0", "2", 0},
		{"need 0 10", "0", 0}, {"hire", "1", 0}, {"free carl 12", "1", 0}, {"allowed dora 0", "", unknown}, {"need 2 5", "", api.ErrRange},
	}...)
	same(t, "Hands", c.Hands(), to(24, 26), to(24, 26), one(17), to(16, 17), to(15, 18))
	same(t, "Notes", c.Notes(), api.BandNote{Kind: 0, From: 101, To: 102}, api.BandNote{Kind: 1, From: 104, To: 104}, api.BandNote{Kind: 2, From: 204, To: 205}, api.BandNote{Kind: 2, From: 105, To: 106})
	same(t, "Free", c.Free(), 10, 8, 12)
	same(t, "Needs", c.Needs(), 10, 9)
	same(t, "Journal", c.Journal(), "knot 1 20 1", "knot 0 5 1", "hand 24 26", "hand 24 26", "hand 16 18", "hand 16 17", "hand 15 18", "note 0 101 102", "note 1 104 104", "note 2 204 205", "note 2 105 106", "count 2 17", "need 0 10", "free carl 12")
}

// same compares a list with what it should be.
func same[T comparable](t *testing.T, name string, list []T, want ...T) {
	t.Helper()
	if !slices.Equal(list, want) {
		t.Errorf("%s: %v, not %v", name, list, want)
	}
}

// wrongSetups are setups that are not valid: mostly one part alone is wrong.
func wrongSetups() map[string]api.ForemanSetup {
	x := func(change func(s *api.ForemanSetup)) api.ForemanSetup { return example(change) }
	return map[string]api.ForemanSetup{
		"nothing":               {},
		"no log":                x(func(s *api.ForemanSetup) { s.Log = api.PeelLog{} }),
		"a log of a wrong size": x(func(s *api.ForemanSetup) { s.Log.Size = 7 }),
		"a wrong knot":          example(knots(api.PeelKnot{Angle: to(5, 9), First: one(1)})),
		"no boxes":              x(func(s *api.ForemanSetup) { s.Fill = api.FillBook{} }),
		"a wrong label":         x(func(s *api.ForemanSetup) { s.Fill.Less = 50 }),
		"a handful":             x(func(s *api.ForemanSetup) { s.Fill.Hands = []api.Span{one(50)} }),
		"a wrong handful":       x(func(s *api.ForemanSetup) { s.Fill.Hands = []api.Span{one(-1)} }),
		"no rolls":              example(rolls()),
		"4 rolls":               example(rolls(roll(1, 1), roll(2, 1), roll(3, 1), roll(4, 1))),
		"rolls with a common":   example(rolls(roll(101, 6), roll(106, 5))),
		"a roll up to 10000":    example(rolls(roll(9981, 20))),
		"no work":               x(func(s *api.ForemanSetup) { s.Shift = api.ShiftBook{} }),
		"no work, no names":     x(func(s *api.ForemanSetup) { s.Shift, s.Names = api.ShiftBook{}, nil }),
		"no table":              x(func(s *api.ForemanSetup) { s.Shift.Table = nil }),
		"too many hours free":   x(func(s *api.ForemanSetup) { s.Shift.Workers[2].Free = 13 }),
		"too many needed":       x(func(s *api.ForemanSetup) { s.Shift.Pastes[0].Hours = 41 }),
		"a wrong paste":         x(func(s *api.ForemanSetup) { s.Shift.Pastes[1].Book.Need = 0 }),
		"a false paste":         x(func(s *api.ForemanSetup) { s.Shift.Pastes[1].Book.Trials[0] = api.PasteTrial{Surface: 1, Lit: true} }),
		"5 workers": x(func(s *api.ForemanSetup) {
			s.Shift.Workers, s.Names = make([]api.ShiftWorker, 5), []string{"a", "b", "c", "d", "e"}
		}),
		"no names":               example(names()),
		"2 names":                example(names("anna", "bea")),
		"4 names":                example(names("anna", "bea", "carl", "dora")),
		"100000 names":           example(names(make([]string, 100000)...)),
		"a name of nobody":       example(nobody, names("anna")),
		"a name twice":           example(names("anna", "bea", "anna")),
		"a name twice, 1 and 2":  example(names("anna", "anna", "carl")),
		"a name twice, at last":  example(names("anna", "bea", "bea")),
		"a name of nothing":      example(names("anna", "", "carl")),
		"a name of 13":           example(names("anna", "b234567890123", "carl")),
		"a name of very many":    example(names("anna", strings.Repeat("b", 100000), "carl")),
		"a digit first":          example(names("anna", "1bea", "carl")),
		"a digit alone":          example(names("anna", "1", "carl")),
		"a capital":              example(names("Anna", "bea", "carl")),
		"a capital in between":   example(names("anna", "bEa", "carl")),
		"a capital at last":      example(names("anna", "bea", "carL")),
		"a blank":                example(names("an na", "bea", "carl")),
		"a blank alone":          example(names(" ", "bea", "carl")),
		"a blank at first":       example(names(" anna", "bea", "carl")),
		"a line feed":            example(names("anna\n", "bea", "carl")),
		"a sign":                 example(names("an-na", "bea", "carl")),
		"before a":               example(names("`anna", "bea", "carl")),
		"behind z":               example(names("anna{", "bea", "carl")),
		"before 0":               example(names("anna/", "bea", "carl")),
		"behind 9":               example(names("anna:", "bea", "carl")),
		"a letter of two bytes":  example(names("änna", "bea", "carl")),
		"one of two in between":  example(names("annä1", "bea", "carl")),
		"a byte that is no rune": example(names("anna\xff", "bea", "carl")),
		"a zero byte":            example(names("anna\x00", "bea", "carl")),
	}
}

// rightSetups are setups that are valid, with as little or as much as there can be.
func rightSetups() map[string]api.ForemanSetup {
	return map[string]api.ForemanSetup{
		"the example":        example(),
		"no knots":           example(knots()),
		"nobody":             example(nobody),
		"short names":        example(names("a", "b", "z")),
		"long names":         example(names("abcdefghijkl", "a12345678901", "z00000000000")),
		"names alike":        example(names("a", "aa", "a0")),
		"an empty list":      example(func(s *api.ForemanSetup) { s.Fill.Hands = []api.Span{} }),
		"many bands":         example(shelf),
		"one band":           example(rolls(roll(9999, 1))),
		"rolls side by side": example(rolls(roll(1, 3), roll(4, 3))),
		"all there can be": example(shelf, func(s *api.ForemanSetup) {
			s.Log = api.PeelLog{Long: []int{12, 12, 12, 12, 12, 12}, Size: 1, Knots: slices.Repeat([]api.PeelKnot{{Angle: to(20, 23), First: to(5, 6)}}, 3)}
			s.Fill = api.FillBook{Promise: 500, Less: 50, More: 50, Group: 4}
			s.Shift.Pastes = slices.Repeat([]api.ShiftPaste{{Book: paste(3), Hours: 40}}, 3)
			s.Shift.Workers = slices.Repeat([]api.ShiftWorker{{Young: true, Free: 12}}, 4)
			s.Names = []string{"a", "b", "c", "d"}
		}),
	}
}

// TestCheck is of P11.1.
func TestCheck(t *testing.T) {
	for name, s := range wrongSetups() {
		if e := foreman.Check(s); e != api.ErrForeman {
			t.Errorf("Check of %s: %d", name, e)
		}
		if c, e := foreman.New(s); c != nil || e != api.ErrForeman {
			t.Errorf("New of %s: %v, %d", name, c, e)
		}
		for _, file := range []string{"", "need 0 6\n", "best\n", "x", strings.Repeat("x", 60001)} {
			if c, at, e := foreman.Open(s, file); c != nil || at != 0 || e != api.ErrForeman {
				t.Errorf("Open of %s: %v, %d, %d", name, c, at, e)
			}
		}
	}
	for name, s := range rightSetups() {
		if e := foreman.Check(s); e != api.OK {
			t.Errorf("Check of %s: %d", name, e)
		}
		c := open(t, s)
		var free, needs []int
		for _, w := range s.Shift.Workers {
			free = append(free, w.Free)
		}
		for _, p := range s.Shift.Pastes {
			needs = append(needs, p.Hours)
		}
		same(t, name, c.Free(), free...)
		same(t, name, c.Needs(), needs...)
		if len(c.Hands())+len(c.Notes())+len(c.Journal()) > 0 || c.File() != "" {
			t.Errorf("%s: a new clerk has %v, %v, %q", name, c.Hands(), c.Notes(), c.File())
		}
	}
}

// right is of each first token a line that has the form.
func right() map[string]string {
	return map[string]string{
		"knot": "knot 1 20 1", "hand": "hand 24 26", "count": "count 0 25", "note": "note 0 101 102", "free": "free anna 3", "need": "need 0 5",
		"best": "best", "waste": "waste", "hope": "hope", "knots": "knots", "plan": "plan", "byhand": "byhand", "over": "over", "any": "any 1",
		"weigh": "weigh", "missing": "missing", "gaps": "gaps", "what": "what 101", "due": "due 10", "turns": "turns", "short": "short",
		"spared": "spared", "hire": "hire", "allowed": "allowed anna 0",
	}
}

// TestForm is of P11.2: lines that do not have the form.
func TestForm(t *testing.T) {
	c := open(t, example(), "hand 24 26")
	for first, line := range right() {
		if _, e := c.Do(line); e != api.OK && e != api.ErrNone {
			t.Errorf("%q: %d", line, e)
		}
		c = open(t, example(), "hand 24 26")
		refuse(t, c, api.ErrForemanLine,
			line+" ", " "+line, line+"\n", "\n"+line, line+"\r", line+"\x00", line+" 1", line+" a", line+" -", line+";"+line, line+" "+line,
			strings.ToUpper(line), strings.ToUpper(line[:1])+line[1:], first+"\t"+line, "x"+line, first+"x", first[1:], first[:len(first)-1],
			line+strings.Repeat(" ", 120), strings.Repeat(" ", 120)+line)
		words := strings.Split(line, " ")
		if len(words) == 1 {
			refuse(t, c, api.ErrForemanLine, line+" 0", line+" anna")
			continue
		}
		refuse(t, c, api.ErrForemanLine, first, first+" ", strings.Join(words[:len(words)-1], " "), strings.Join(words, "  "), strings.Join(words, "\t"), strings.Join(words, "\n"), strings.Join(words, ","))
		for i := 1; i < len(words); i++ {
			with := func(word string) string { return strings.Join(slices.Replace(slices.Clone(words), i, i+1, word), " ") }
			refuse(t, c, api.ErrForemanLine, with(""), with(words[i]+" "), with(words[i]+"\n"), with("\n"), with("1\n2"))
			if words[i] == "anna" {
				continue
			}
			for _, word := range []string{"a", "-", "-1", "+1", "00", "01", "0000001", "12345678", "10000000", "00000000", "99999999999999999999", "1.0", "1.", "1e1", "0x1", "1_0", "1a", "a1", "\t1", "1\t", "\u0661", "\uff11", "²", "\xff", "1\x00", "anna", "T", "N", "K", "/", ":"} {
				refuse(t, c, api.ErrForemanLine, with(word))
			}
		}
	}
	refuse(t, c, api.ErrForemanLine, "", " ", "\n", "-", "0", "1 2", "moon", "knot1 20 1", "knots 0", "freeanna 3", "need,0,5", strings.Repeat("x", 120), strings.Repeat("best ", 10000), strings.Repeat("1", 100000))
}

// TestTokens is of P11.2: lines that just have the form.
func TestTokens(t *testing.T) {
	c := open(t, example())
	// a name of any bytes, in a line of 120 bytes, and of one more
	for _, name := range []string{"?", "Anna", "\t", "\r", "\x00", "\xff", "änna", "0", "-1", "anna\t", "anna\u00a0", strings.Repeat("a", 113)} {
		refuse(t, c, api.ErrForemanUnknown, "free "+name+" 1")
	}
	refuse(t, c, api.ErrForemanUnknown, "free "+strings.Repeat("a", 107)+" 1234567", "allowed "+strings.Repeat("a", 110)+" 1", "allowed "+strings.Repeat("ä", 55)+" 1")
	refuse(t, c, api.ErrForemanLine, "free "+strings.Repeat("a", 114)+" 1", "free "+strings.Repeat("a", 108)+" 1234567", "allowed "+strings.Repeat("a", 111)+" 1", "allowed a"+strings.Repeat("ä", 55)+" 1")
	// numbers of up to 7 digits
	refuse(t, c, api.ErrRange, "knot 9999999 0 0", "knot 0 9999999 0", "knot 0 5 1234567", "hand 9999999 9999999", "need 1000000 1", "need 0 1000000", "what 9999999", "due 9999999", "any 9999999", "allowed anna 9999999", "free anna 9999999")
	play(t, c, said{"need 0 0", "1", 0}, said{"due 0", "0 0", 0}, said{"free anna 0", "0", 0})
}

// TestKnot is of what P11.2 says of knot.
func TestKnot(t *testing.T) {
	c := open(t, example())
	refuse(t, c, api.ErrRange, "knot 2 20 1", "knot 0 24 1", "knot 0 5 4", "knot 2 24 4", "knot 0 0 4", "knot 0 24 0")
	refuse(t, c, api.ErrForemanFalse, "knot 0 4 1", "knot 0 8 1", "knot 0 5 0", "knot 0 5 2", "knot 0 5 3", "knot 0 23 1", "knot 1 19 0", "knot 1 21 0", "knot 1 20 2", "knot 1 0 0")
	play(t, c, said{"knot 0 7 1", "6", 0}, said{"best", "0 3 9 13 18 22", 0}, said{"knot 0 7 1", "6", 0})
	refuse(t, c, api.ErrForemanFalse, "knot 0 6 1", "knot 0 5 1")
	play(t, c, said{"knot 1 20 0", "6", 0})
	refuse(t, c, api.ErrForemanFalse, "knot 1 20 1")
	same(t, "Journal", c.Journal(), "knot 0 7 1", "knot 0 7 1", "knot 1 20 0")
	refuse(t, open(t, example(knots())), api.ErrRange, "knot 0 0 0")
	// a knot that does not show
	c = open(t, example(knots(api.PeelKnot{Angle: to(20, 23), First: to(2, 3)})))
	play(t, c, said{"best", "0 3 6 9 12 15 18 21", 0}, said{"knot 0 23 3", "9", 0}, said{"best", "0 3 6 9 12 15 18 21 24", 0}, said{"waste", "0", 0}, said{"hope", "9", 0}, said{"knots", "0", 0})
}

// TestHand is of what P11.2 says of hand.
func TestHand(t *testing.T) {
	c := open(t, example(shelf))
	refuse(t, c, api.ErrRange, "hand 1 0", "hand 24 23", "hand 24 35", "hand 0 11", "hand 200 201", "hand 201 201", "hand 195 201", "hand 0 201", "hand 201 0", "hand 201 200", "hand 201 211")
	play(t, c, said{"hand 0 10", "1 1", 0}, said{"hand 190 200", "1 1", 0}, said{"hand 200 200", "1 1", 0}, said{"hand 0 0", "2 2", 0}, said{"hand 50 50", "2 1", 0}, said{"hand 1 1", "2 1", 0}, said{"hand 1 11", "3 2", 0}, said{"hand 48 53", "4 2", 0})
	same(t, "Hands", c.Hands(), to(0, 10), to(190, 200), one(200), one(0), one(50), one(1), to(1, 11), to(48, 53))
	refuse(t, c, api.ErrFull, "hand 0 0", "hand 50 50", "hand 0 10")
	refuse(t, c, api.ErrRange, "hand 1 0", "hand 0 11", "hand 195 201")
	// as many boxes as bands, whether they are opened again or not
	c = open(t, example(rolls(roll(7, 2))), "hand 50 50", "hand 47 50")
	refuse(t, c, api.ErrForemanFalse, "hand 50 50", "hand 48 53")
	play(t, c, said{"hand 47 50", "2 1", 0}, said{"missing", "0 0", 0})
	// a band that is spoiled, or left, is on no box
	c = open(t, example(rolls(roll(7, 3))), "note 1 7 7", "note 2 9 9", "hand 50 50")
	refuse(t, c, api.ErrForemanFalse, "hand 50 50")
	// if it is full, too, that is told
	c = open(t, example(rolls(roll(7, 8))), "hand 50 50", "hand 50 50", "hand 50 50", "hand 50 50", "hand 50 50", "hand 50 50", "hand 50 50", "hand 50 50")
	refuse(t, c, api.ErrFull, "hand 50 50")
}

// TestCount is of what P11.2 says of count.
func TestCount(t *testing.T) {
	refuse(t, open(t, example()), api.ErrRange, "count 0 0", "count 0 50")
	c := open(t, example(), "hand 24 26", "hand 190 200")
	refuse(t, c, api.ErrRange, "count 2 25", "count 0 201", "count 2 201", "count 1 201", "count 8 25")
	refuse(t, c, api.ErrForemanFalse, "count 0 23", "count 0 27", "count 0 0", "count 0 200", "count 1 189", "count 1 25")
	play(t, c, said{"count 0 24", "1 1", 0}, said{"count 1 200", "1 1", 0}, said{"count 0 24", "1 1", 0})
	refuse(t, c, api.ErrForemanFalse, "count 0 25", "count 1 199", "count 1 190")
	same(t, "Hands", c.Hands(), one(24), one(200))
	play(t, open(t, example(), "hand 45 50", "hand 24 26"), said{"count 0 48", "2 1", 0}, said{"count 1 26", "2 1", 0}, said{"plan", "1 2", 0}, said{"byhand", "1", 0})
	// a box less, or one less by hand, leaves too few for the bands that were used
	c = open(t, example(), "hand 45 50", "note 0 101 102")
	refuse(t, c, api.ErrForemanFalse, "count 0 50", "count 0 48", "count 0 51")
	play(t, c, said{"count 0 45", "1 1", 0})
	// two boxes now, and one band
	c = open(t, example(rolls(roll(7, 1)), func(s *api.ForemanSetup) { s.Fill.Promise, s.Fill.Less, s.Fill.More = 50, 0, 50 }), "hand 50 50", "hand 45 50")
	refuse(t, c, api.ErrForemanFalse, "count 1 50")
	play(t, c, said{"count 1 49", "1 0", 0}, said{"missing", "0 0", 0})
}

// TestNote is of what P11.2 says of note.
func TestNote(t *testing.T) {
	c := open(t, example(shelf))
	refuse(t, c, api.ErrRange, "note 3 1 1", "note 9 1 1", "note 2 0 1", "note 2 0 0", "note 2 2 1", "note 2 1 31", "note 2 9999 10000", "note 2 10000 10000", "note 2 9971 10000", "note 3 0 0", "note 2 41 71")
	// of bands that were never sold, or more than are used
	refuse(t, c, api.ErrForemanFalse, "note 2 41 41", "note 2 40 41", "note 2 9979 9980", "note 2 9970 9999", "note 0 1 1", "note 0 9999 9999", "note 2 41 70")
	play(t, c, said{"note 2 1 30", "30 30", 0}, said{"note 1 9999 9999", "29 29", 0}, said{"note 1 31 31", "28 28", 0}, said{"note 2 9980 9998", "9 9", 0})
	refuse(t, c, api.ErrForemanFalse, "note 2 30 32", "note 1 30 30", "note 0 30 30", "note 2 31 31", "note 0 32 32")
	play(t, c, said{"hand 40 50", "1 1", 0}, said{"note 0 32 32", "7 8", 0}, said{"note 0 40 40", "7 7", 0})
	refuse(t, c, api.ErrForemanFalse, "note 0 33 33")
	play(t, c, said{"note 1 33 33", "6 6", 0}, said{"note 2 34 39", "0 0", 0}, said{"gaps", "-", 0})
	refuse(t, c, api.ErrFull, "note 1 1 1", "note 0 5 5", "note 2 41 41")
	refuse(t, c, api.ErrRange, "note 3 1 1", "note 2 2 1", "note 2 0 0")
	same(t, "Notes", c.Notes()[:2], api.BandNote{Kind: 2, From: 1, To: 30}, api.BandNote{Kind: 1, From: 9999, To: 9999})
}

// TestWork is of what P11.2 says of free and need.
func TestWork(t *testing.T) {
	c := open(t, example())
	refuse(t, c, api.ErrForemanUnknown, "free dora 1", "free dora 13", "free Anna 1", "free ann 1", "free annaa 1", "free 0 1", "free T 1")
	refuse(t, c, api.ErrRange, "free anna 13", "free carl 100", "need 2 1", "need 9 1", "need 0 41", "need 1 41", "need 2 41")
	play(t, c, said{"free anna 12", "1", 0}, said{"free bea 12", "1", 0}, said{"free carl 12", "1", 0}, said{"need 0 40", "0", 0}, said{"need 1 40", "0", 0}, said{"need 0 10", "0", 0}, said{"need 1 20", "1", 0}, said{"need 1 21", "0", 0}, said{"need 1 0", "1", 0}, said{"need 0 11", "0", 0})
	same(t, "Free", c.Free(), 12, 12, 12)
	same(t, "Needs", c.Needs(), 11, 0)
	// nobody is free
	play(t, c, said{"free anna 0", "0", 0}, said{"free bea 0", "0", 0}, said{"free carl 0", "0", 0}, said{"need 0 0", "1", 0}, said{"turns", "-", 0}, said{"spared", "0 1 2", 0}, said{"hire", "0", 0}, said{"need 1 1", "0", 0}, said{"turns", "", api.ErrNone}, said{"short", "1", 0}, said{"free bea 1", "1", 0}, said{"turns", "1 1 1", 0})
	c = open(t, example(nobody))
	refuse(t, c, api.ErrForemanUnknown, "free anna 1", "allowed anna 0")
	play(t, c, said{"need 0 0", "0", 0}, said{"spared", "", api.ErrNone}, said{"need 1 0", "1", 0}, said{"spared", "-", 0}, said{"turns", "-", 0})
}

// TestAsk is of P11.2: the errors and the answers of lines that ask.
func TestAsk(t *testing.T) {
	c := open(t, example())
	play(t, c, said{"plan", "-", 0}, said{"byhand", "-", 0}, said{"over", "0 0", 0}, said{"missing", "11 11", 0}, said{"gaps", "101 6 201 5", 0}, said{"what 101", "8", 0}, said{"due 1000", "11000 11000", 0})
	refuse(t, c, api.ErrNone, "weigh", "short")
	refuse(t, c, api.ErrRange, "any 0", "any 1", "any 9", "what 0", "what 100", "what 107", "what 200", "what 206", "what 9999", "due 1001", "allowed anna 2", "allowed bea 3")
	refuse(t, c, api.ErrForemanUnknown, "allowed dora 0", "allowed dora 2", "allowed Anna 0")
	play(t, c, said{"allowed anna 0", "4", 0}, said{"allowed anna 1", "8", 0}, said{"allowed bea 0", "2", 0}, said{"allowed bea 1", "4", 0}, said{"allowed carl 1", "8", 0})
	c = open(t, example(), "hand 50 53", "hand 47 49", "note 1 101 103", "note 2 202 202")
	play(t, c, said{"any 1", "0", 0}, said{"any 2", "0", 0}, said{"weigh", "0", 0}, said{"byhand", "1", 0}, said{"over", "0 3", 0}, said{"missing", "4 5", 0}, said{"due 2", "2 4", 0}, said{"due 0", "0 0", 0}, said{"due 1000", "1000 2000", 0}, said{"what 101", "2", 0}, said{"what 202", "4", 0}, said{"what 205", "9", 0}, said{"gaps", "104 3 201 1 203 3", 0})
	refuse(t, c, api.ErrRange, "any 0", "any 3")
	c = open(t, example(knots()))
	refuse(t, c, api.ErrNone, "knots")
	play(t, c, said{"best", "0 3 6 9 12 15 18 21 24", 0}, said{"waste", "0", 0})
	// there is no piece
	c = open(t, example(knots(), func(s *api.ForemanSetup) { s.Log.Long, s.Log.Size = []int{5}, 6 }))
	play(t, c, said{"best", "-", 0}, said{"waste", "5", 0}, said{"hope", "0", 0})
	// nobody can be hired for that
	c = open(t, example(func(s *api.ForemanSetup) { s.Shift.Table = s.Shift.Table[:1] }))
	refuse(t, c, api.ErrNone, "hire", "turns", "spared")
	play(t, c, said{"short", "0", 0}, said{"need 0 0", "1", 0}, said{"hire", "0", 0})
}

// TestNil is of P11.3: a clerk that is none.
func TestNil(t *testing.T) {
	var none *foreman.Foreman
	for i, c := range []*foreman.Foreman{none, {}, new(foreman.Foreman)} {
		for _, line := range []string{"best", "hand 24 26", "", "moon", "free dora 99", strings.Repeat("x", 1000)} {
			play(t, c, said{line, "", api.ErrNil})
		}
		if c.File() != "" || len(c.Hands())+len(c.Notes())+len(c.Free())+len(c.Needs())+len(c.Journal()) > 0 {
			t.Errorf("the clerk %d who is none has %q, %v, %v, %v, %v, %v", i, c.File(), c.Hands(), c.Notes(), c.Free(), c.Needs(), c.Journal())
		}
	}
}

// TestJournal is of P11.2 to P11.4: what is in the journal, and in the file.
func TestJournal(t *testing.T) {
	c := open(t, example())
	var want []string
	for _, line := range []string{"knot 1 20 1", "best", "hand 24 26", "hand 24 26", "plan", "count 0 25", "weigh", "note 0 101 101", "missing", "free carl 12", "turns", "need 0 10", "need 0 10", "hire"} {
		if _, e := c.Do(line); e != api.OK {
			t.Errorf("%q: %d", line, e)
		}
		if strings.Contains(line, " ") {
			want = append(want, line)
		}
		refuse(t, c, api.ErrForemanLine, "moon")
		refuse(t, c, api.ErrRange, "need 9 9", "due 1001")
		same(t, "Journal", c.Journal(), want...)
		if file := strings.Join(want, "\n") + "\n"; c.File() != file {
			t.Errorf("File: %q, not %q", c.File(), file)
		}
	}
}

// TestFull is of P11.2: a journal of 200 lines.
func TestFull(t *testing.T) {
	c := open(t, example(), slices.Repeat([]string{"need 0 6"}, 199)...)
	refuse(t, c, api.ErrRange, "need 9 9")
	play(t, c, said{"free carl 4", "1", 0})
	if n := len(c.Journal()); n != 200 {
		t.Errorf("there are %d lines", n)
	}
	refuse(t, c, api.ErrFull, "need 0 6", "need 9 9", "knot 9 9 9", "knot 0 8 1", "hand 24 26", "hand 1 0", "count 0 1", "note 0 1 1", "note 9 9 9", "free dora 99", "free anna 3")
	refuse(t, c, api.ErrForemanLine, "need", "need 0", "knot 0 8", "moon", "best 1")
	refuse(t, c, api.ErrRange, "any 1", "due 1001")
	refuse(t, c, api.ErrForemanUnknown, "allowed dora 0")
	play(t, c, said{"best", "0 3 13 22", 0}, said{"hire", "0", 0}, said{"missing", "11 11", 0})
}

// TestOpen is of P11.4.
func TestOpen(t *testing.T) {
	long := strings.Repeat("need 0 6\n", 200)
	for i, x := range []struct {
		file string
		at   int
		e    api.Errno
	}{
		{"", 0, api.OK}, {"need 0 6\n", 1, api.OK}, {"need 0 6\nfree anna 3\nhand 24 26\n", 3, api.OK}, {long, 200, api.OK},
		// too long, or cut off
		{strings.Repeat("x", 60001), 0, api.ErrLong}, {strings.Repeat("\n", 60001), 0, api.ErrLong}, {strings.Repeat("need 0 6\n", 6667), 0, api.ErrLong}, {strings.Repeat("x", 60000), 0, api.ErrForm}, {strings.Repeat("\n", 60000), 0, api.ErrForemanLine}, {strings.Repeat("x", 59999) + "\n", 0, api.ErrForemanLine}, {strings.Repeat("need 0 6\n", 6666), 200, api.ErrFull}, {"need 0 6\n" + strings.Repeat("x", 59990) + "\n", 1, api.ErrForemanLine},
		{"x", 0, api.ErrForm}, {"need 0 6", 0, api.ErrForm}, {"need 0 6\nneed 0 6", 0, api.ErrForm}, {"need 0 6\nbest", 0, api.ErrForm}, {"moon\nneed 0 6", 0, api.ErrForm}, {"need 0 6\n ", 0, api.ErrForm}, {"need 0 6\r", 0, api.ErrForm},
		// lines that are none
		{"\n", 0, api.ErrForemanLine}, {"\n\n", 0, api.ErrForemanLine}, {"need 0 6\n\n", 1, api.ErrForemanLine}, {"need 0 6\n\nneed 0 6\n", 1, api.ErrForemanLine}, {"need 0 6\r\n", 0, api.ErrForemanLine}, {"need 0 6\nmoon\nhand 24 26\n", 1, api.ErrForemanLine}, {"need 0 6\nneed 0 6 \n", 1, api.ErrForemanLine}, {" need 0 6\n", 0, api.ErrForemanLine}, {"free " + strings.Repeat("a", 114) + " 1\n", 0, api.ErrForemanLine},
		// lines that ask, also such ones that are errors
		{"best\n", 0, api.ErrForemanLine}, {"need 0 6\nhire\nneed 0 6\n", 1, api.ErrForemanLine}, {"allowed dora 0\n", 0, api.ErrForemanLine}, {"any 9\n", 0, api.ErrForemanLine}, {"weigh\n", 0, api.ErrForemanLine}, {"need 0 10\nturns\n", 1, api.ErrForemanLine}, {"best 1\n", 0, api.ErrForemanLine}, {long + "best\n", 200, api.ErrForemanLine}, {long + "any 9\n", 200, api.ErrForemanLine},
		// lines that are errors
		{"need 9 9\n", 0, api.ErrRange}, {"need 0 6\nneed 9 9\nbest\n", 1, api.ErrRange}, {"hand 24 26\nhand 24 23\n", 1, api.ErrRange}, {"free dora 5\n", 0, api.ErrForemanUnknown}, {"hand 24 26\nfree dora 13\n", 1, api.ErrForemanUnknown}, {"note 0 101 101\n", 0, api.ErrForemanFalse}, {"hand 24 26\ncount 0 25\ncount 0 24\n", 2, api.ErrForemanFalse}, {"knot 0 8 1\n", 0, api.ErrForemanFalse}, {strings.Repeat("hand 24 26\n", 9), 8, api.ErrFull}, {long + "need 0 5\n", 200, api.ErrFull}, {long + "need 9 9\n", 200, api.ErrFull}, {long + "moon\n", 200, api.ErrForemanLine}, {long + "need 0 5", 0, api.ErrForm},
	} {
		c, at, e := foreman.Open(example(), x.file)
		if at != x.at || e != x.e || (c != nil) != (x.e == api.OK) {
			t.Errorf("Open %d: %v, %d, %d; not %d, %d", i, c != nil, at, e, x.at, x.e)
		}
		if c != nil && c.File() != x.file {
			t.Errorf("Open %d: the file is %q", i, c.File())
		}
	}
}
