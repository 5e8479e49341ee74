package foreman_test

import (
	"fmt"
	"math"
	"math/rand"
	"reflect"
	"slices"
	"strings"
	"testing"

	"lucifer/api"
	"lucifer/band"
	"lucifer/fill"
	"lucifer/foreman"
	"lucifer/peel"
	"lucifer/shift"
)

// isValid reports whether a setup is valid, as the chapter defines it.
func isValid(s api.ForemanSetup) bool {
	bands := api.BandBook{Rolls: s.Rolls, Fill: s.Fill}
	if peel.Check(s.Log) != api.OK || fill.Check(s.Fill) != api.OK || len(s.Fill.Hands) > 0 || band.Check(bands) != api.OK || shift.Check(s.Shift) != api.OK {
		return false
	}
	known := map[string]bool{}
	for _, name := range s.Names {
		known[name] = true
		for i, c := range []byte(name) {
			if !(c >= 'a' && c <= 'z' || i > 0 && c >= '0' && c <= '9') {
				return false
			}
		}
		if len(name) == 0 || len(name) > 12 {
			return false
		}
	}
	return len(known) == len(s.Names) && len(s.Names) == len(s.Shift.Workers)
}

// disturb changes some numbers, names and lists of a setup, which is no other one's.
func disturb(r *rand.Rand, s *api.ForemanSetup, any func() int) {
	numbers := []*int{&s.Log.Size, &s.Log.Long[0], &s.Fill.Promise, &s.Fill.Less, &s.Fill.More, &s.Fill.Group, &s.Rolls[0].First, &s.Rolls[0].Many, &s.Shift.Pastes[0].Hours, &s.Shift.Table[0].Hours, &s.Shift.Table[0].Power}
	for i := range s.Log.Knots {
		numbers = append(numbers, &s.Log.Knots[i].Angle.Low, &s.Log.Knots[i].First.High)
	}
	for i := range s.Shift.Workers {
		numbers = append(numbers, &s.Shift.Workers[i].Free)
	}
	for _, number := range numbers {
		if r.Intn(len(numbers)) == 0 {
			*number = any()
		}
	}
	switch r.Intn(8) {
	case 0:
		s.Names = append(s.Names, "dora")
	case 1:
		s.Fill.Hands = slices.Repeat([]api.Span{to(any(), any())}, r.Intn(3))
	case 2:
		s.Rolls = slices.Repeat(s.Rolls, r.Intn(3))
	case 3:
		s.Shift.Workers = slices.Repeat(s.Shift.Workers, r.Intn(3))
	}
	for i := range s.Names {
		if r.Intn(8) == 0 {
			s.Names[i] = []string{"", "a", "anna", "bea", "b1", "1b", "abcdefghijkl", "abcdefghijklm", "\xff", "A", "a b"}[r.Intn(11)]
		}
	}
}

// spoil returns a text that is near to a line.
func spoil(r *rand.Rand, line string) string {
	b := []byte(line)
	for range 1 + r.Intn(2) {
		at := r.Intn(len(b) + 1)
		any := " \n\t-+019aTZ\x00\xff"
		c := any[r.Intn(len(any))]
		switch {
		case r.Intn(3) == 0:
			b = slices.Insert(b, at, c)
		case at < len(b) && r.Intn(2) == 0:
			b[at] = c
		case at < len(b):
			b = slices.Delete(b, at, at+1)
		}
	}
	return string(b)
}

// TestAnyArguments is of P1: no call panics, each error is the one that is named first, and with it all else is zero.
func TestAnyArguments(t *testing.T) {
	numbers := []int{math.MinInt, -1, 0, 1, 2, 3, 4, 6, 7, 10, 12, 13, 20, 21, 40, 41, 50, 51, 500, 501, 9980, 9999, 10000, math.MaxInt}
	r := rand.New(rand.NewSource(1))
	any := func() int { return numbers[r.Intn(len(numbers))] }
	valid, formed := map[bool]int{}, map[bool]int{}
	for i := range 600 {
		s := someSetup(r)
		if i%2 == 0 {
			disturb(r, &s, any)
		}
		is := isValid(s)
		valid[is]++
		c, e := foreman.New(s)
		d, at, f := foreman.Open(s, "")
		if e != foreman.Check(s) || f != e || is != (e == api.OK) || !is && e != api.ErrForeman || is != (c != nil) || is != (d != nil) || at != 0 {
			t.Fatalf("of %v: %v, %d, %v, %d, %d; is it valid: %v", s, c, e, d, at, f, is)
		}
		if !is {
			continue
		}
		m := modelOf(s)
		for range 30 {
			line := someLine(r, m)
			if r.Intn(3) > 0 {
				line = spoil(r, line)
			}
			want, e := m.do(line)
			if answer, f := c.Do(line); answer != want || f != e {
				t.Fatalf("%q by %v: %q, %d; not %q, %d", line, s, answer, f, want, e)
			}
			formed[e != api.ErrForemanLine]++
		}
		if !m.has(c) {
			t.Fatalf("%v: %v, %q", s, c.Hands(), c.File())
		}
	}
	if valid[true] < 200 || valid[false] < 150 || formed[true] < 2000 || formed[false] < 2000 {
		t.Errorf("so many setups are valid: %v; so many lines have the form: %v", valid, formed)
	}
}

// TestAnyFile is of P11.4: files that were cut, or spoiled.
func TestAnyFile(t *testing.T) {
	r := rand.New(rand.NewSource(2))
	some := map[api.Errno]int{}
	for range 300 {
		s := someSetup(r)
		m := modelOf(s)
		for range r.Intn(30) {
			m.do(someLine(r, m))
		}
		file := ""
		for _, line := range m.journal {
			file += line + "\n"
		}
		switch r.Intn(5) {
		case 0:
			file = file[:r.Intn(len(file)+1)]
		case 1:
			file = spoil(r, file)
		case 2:
			lines := strings.SplitAfter(file, "\n")
			file = strings.Join(slices.Insert(lines, r.Intn(len(lines)), someLine(r, m)+"\n"), "")
		case 3:
			lines := strings.SplitAfter(file, "\n")
			file = strings.Join(slices.Concat(lines, lines[r.Intn(len(lines)):]), "")
		}
		at, e := reopen(s, file)
		c, n, f := foreman.Open(s, file)
		if n != at || f != e || (c != nil) != (e == api.OK) || c != nil && c.File() != file {
			t.Fatalf("Open of %v, %q: %d, %d; not %d, %d", s, file, n, f, at, e)
		}
		some[e]++
	}
	for _, e := range []api.Errno{api.OK, api.ErrForm, api.ErrForemanLine, api.ErrRange, api.ErrForemanFalse} {
		if some[e] < 5 {
			t.Errorf("so often there are errors: %v", some)
		}
	}
}

// reopen returns what Open should return of a file that is not too long.
func reopen(s api.ForemanSetup, file string) (int, api.Errno) {
	lines := strings.Split(file, "\n")
	if last := lines[len(lines)-1]; last != "" {
		return 0, api.ErrForm
	}
	m := modelOf(s)
	for at, line := range lines[:len(lines)-1] {
		words, _, is := parse(line)
		if is && !changes(words[0]) {
			return at, api.ErrForemanLine
		}
		if _, e := m.do(line); e != api.OK {
			return at, e
		}
	}
	return len(lines) - 1, api.OK
}

// TestSameAgain is of P2: what one clerk does is nothing to another one.
func TestSameAgain(t *testing.T) {
	r := rand.New(rand.NewSource(3))
	var clerks []*foreman.Foreman
	var lines, said [][]string
	do := func(i int, line string) string {
		answer, e := clerks[i].Do(line)
		return fmt.Sprint(answer, ", ", int(e))
	}
	setups := map[int]api.ForemanSetup{}
	for i := range 40 {
		s := someSetup(r)
		setups[i], clerks = s, append(clerks, open(t, s))
		lines, said = append(lines, nil), append(said, nil)
		m := modelOf(s)
		for range 20 {
			line := someLine(r, m)
			m.do(line)
			lines[i], said[i] = append(lines[i], line), append(said[i], do(i, line))
		}
	}
	before := everything(clerks[0])
	for i := range clerks {
		clerks[i] = open(t, setups[i])
	}
	// now all of them in turn
	for k := range 20 {
		for i := range clerks {
			if again := do(i, lines[i][k]); again != said[i][k] {
				t.Fatalf("%q by %v was %q, and is %q", lines[i][k], setups[i], said[i][k], again)
			}
		}
	}
	if after := everything(clerks[0]); !slices.Equal(after, before) {
		t.Errorf("there was %q, and there is %q", before, after)
	}
}

// none returns a nil list, or an empty one.
func none[T any](empty bool) []T {
	if empty {
		return []T{}
	}
	return nil
}

// TestNilAndEmpty is of R3.
func TestNilAndEmpty(t *testing.T) {
	for name, change := range map[string]func(s *api.ForemanSetup, empty bool){
		"turns":    func(s *api.ForemanSetup, empty bool) { s.Log.Long = none[int](empty) },
		"knots":    func(s *api.ForemanSetup, empty bool) { s.Log.Knots = none[api.PeelKnot](empty) },
		"hands":    func(s *api.ForemanSetup, empty bool) { s.Fill.Hands = none[api.Span](empty) },
		"rolls":    func(s *api.ForemanSetup, empty bool) { s.Rolls = none[api.BandRoll](empty) },
		"pastes":   func(s *api.ForemanSetup, empty bool) { s.Shift.Pastes = none[api.ShiftPaste](empty) },
		"a table":  func(s *api.ForemanSetup, empty bool) { s.Shift.Table = none[api.ShiftRow](empty) },
		"trials":   func(s *api.ForemanSetup, empty bool) { s.Shift.Pastes[0].Book.Trials = none[api.PasteTrial](empty) },
		"pairs":    func(s *api.ForemanSetup, empty bool) { s.Shift.Pastes[0].Book.Pairs = none[api.PastePair](empty) },
		"salts":    func(s *api.ForemanSetup, empty bool) { s.Shift.Pastes[0].Book.Salts = none[api.PasteSalt](empty) },
		"surfaces": func(s *api.ForemanSetup, empty bool) { s.Shift.Pastes[0].Book.Surfaces = none[api.PasteSurface](empty) },
		"names":    func(s *api.ForemanSetup, empty bool) { s.Names = none[string](empty) },
		"workers": func(s *api.ForemanSetup, empty bool) {
			s.Shift.Workers, s.Names = none[api.ShiftWorker](empty), none[string](empty)
		},
	} {
		var told [2][]string
		for i, empty := range []bool{false, true} {
			s := example()
			change(&s, empty)
			c, e := foreman.New(s)
			told[i] = append(everything(c), fmt.Sprint(foreman.Check(s), e))
			_, at, e := foreman.Open(s, "hand 24 26\n")
			told[i] = append(told[i], fmt.Sprint(at, e))
		}
		if !slices.Equal(told[0], told[1]) {
			t.Errorf("%s: %v, %v", name, told[0], told[1])
		}
	}
}

// spare returns a copy of the list that has room behind its end, in which there is something.
func spare[T any](list []T, filler T) []T {
	c := append(slices.Clone(list), filler, filler, filler)
	return c[:len(list)]
}

// room puts all lists of a setup where there is room behind their ends.
func room(s *api.ForemanSetup) {
	s.Log.Long, s.Log.Knots = spare(s.Log.Long, 7), spare(s.Log.Knots, api.PeelKnot{Angle: one(7)})
	s.Fill.Hands = spare(s.Fill.Hands, one(77))
	s.Rolls, s.Names = spare(s.Rolls, roll(7, 7)), spare(s.Names, "x")
	w := &s.Shift
	w.Workers, w.Table = spare(w.Workers, api.ShiftWorker{Free: 7}), spare(w.Table, api.ShiftRow{Power: 7})
	w.Pastes = spare(w.Pastes, api.ShiftPaste{Hours: 7})
	for i := range w.Pastes {
		b := &w.Pastes[i].Book
		b.Salts, b.Pairs = spare(b.Salts, api.PasteSalt{Power: 7}), spare(b.Pairs, api.PastePair{More: 7})
		b.Surfaces, b.Trials = spare(b.Surfaces, api.PasteSurface{Rub: one(7)}), spare(b.Trials, api.PasteTrial{Surface: 7})
	}
}

// behind returns a setup with what is behind the ends of its lists.
func behind(s api.ForemanSetup) []any {
	all := []any{
		s.Log.Size, s.Log.Long[:len(s.Log.Long)+3], s.Log.Knots[:len(s.Log.Knots)+3], s.Fill.Promise, s.Fill.Hands[:len(s.Fill.Hands)+3],
		s.Rolls[:len(s.Rolls)+3], s.Names[:len(s.Names)+3], s.Shift.Workers[:len(s.Shift.Workers)+3], s.Shift.Table[:len(s.Shift.Table)+3],
		s.Shift.Pastes[:len(s.Shift.Pastes)+3],
	}
	for _, p := range s.Shift.Pastes {
		b := p.Book
		all = append(all, b.Salts[:len(b.Salts)+3], b.Pairs[:len(b.Pairs)+3], b.Surfaces[:len(b.Surfaces)+3], b.Trials[:len(b.Trials)+3])
	}
	return all
}

// TestOnlyRead is of P11.5: arguments are not changed, not even behind their ends.
func TestOnlyRead(t *testing.T) {
	r := rand.New(rand.NewSource(4))
	for i := range 40 {
		s, given := example(room), example(room)
		if i > 0 {
			seed := r.Int63()
			s, given = someSetup(rand.New(rand.NewSource(seed))), someSetup(rand.New(rand.NewSource(seed)))
			room(&s)
			room(&given)
		}
		c, m := open(t, s), modelOf(given)
		for range 40 {
			line := someLine(r, m)
			m.do(line)
			c.Do(line)
		}
		everything(c)
		foreman.Check(s)
		foreman.Open(s, c.File())
		if !reflect.DeepEqual(behind(s), behind(given)) {
			t.Fatalf("%v has become %v", given, s)
		}
	}
}

// today is lines of all kinds.
func today() []string {
	return []string{"knot 1 20 1", "hand 24 26", "hand 24 26", "hand 16 18", "note 0 101 101", "note 2 204 205", "free carl 2", "need 0 5"}
}

// erase writes over all lists of a setup like the example: what has them then is another one, mostly one that is not valid.
func erase(s api.ForemanSetup) {
	s.Log.Long[0], s.Log.Knots[0], s.Log.Knots[1] = 1, api.PeelKnot{}, api.PeelKnot{}
	s.Rolls[0], s.Rolls[1] = roll(1, 1), roll(2, 1)
	s.Names[0], s.Names[1] = "x", "y"
	for i := range s.Shift.Pastes {
		b := s.Shift.Pastes[i].Book
		b.Salts[0], b.Pairs[0], b.Surfaces[0], b.Trials[0] = api.PasteSalt{Power: -1}, api.PastePair{}, api.PasteSurface{Rub: to(2, 1)}, api.PasteTrial{Surface: 9}
		s.Shift.Pastes[i] = api.ShiftPaste{}
	}
	for i := range s.Shift.Workers {
		s.Shift.Workers[i] = api.ShiftWorker{Young: !s.Shift.Workers[i].Young, Free: 13}
	}
	s.Shift.Table[0], s.Shift.Table[1] = api.ShiftRow{}, api.ShiftRow{}
}

// TestNewMemory is of P11.5: what was given, and what is returned, can be written over.
func TestNewMemory(t *testing.T) {
	file := strings.Join(today(), "\n") + "\n"
	for _, lines := range [][]string{nil, today()} {
		s := example(room)
		c := open(t, s, lines...)
		before := everything(c)
		erase(s)
		if after := everything(c); !slices.Equal(after, before) {
			t.Errorf("with the setup %q has become %q", before, after)
		}
	}
	s := example(room)
	c, _, e := foreman.Open(s, file)
	if e != api.OK {
		t.Fatalf("Open: %d", e)
	}
	before := everything(c)
	erase(s)
	over(t, c.Hands, one(1))
	over(t, c.Notes, api.BandNote{Kind: 1, From: 1, To: 1})
	over(t, c.Free, 0)
	over(t, c.Needs, 40)
	over(t, c.Journal, "x")
	if after := everything(c); !slices.Equal(after, before) {
		t.Errorf("with the results %q has become %q", before, after)
	}
}

// over writes over what is returned, and behind its end.
func over[T comparable](t *testing.T, call func() []T, filler T) {
	t.Helper()
	first, second := call(), call()
	want := slices.Clone(first)
	if len(want) == 0 {
		t.Fatalf("nothing: %v", want)
	}
	for i := range first {
		first[i] = filler
	}
	_ = append(first, filler)
	_ = append(second, filler)
	if third := call(); !slices.Equal(second, want) || !slices.Equal(third, want) {
		t.Errorf("%v, %v, %v; not %v", first, second, third, want)
	}
}

// TestKeptResults is of P11.5: what was returned is not changed by what is done then.
func TestKeptResults(t *testing.T) {
	c := open(t, example(), today()...)
	hands, notes, free, needs, journal, file := c.Hands(), c.Notes(), c.Free(), c.Needs(), c.Journal(), c.File()
	play(t, c, said{"count 0 25", "2 1", 0}, said{"hand 24 26", "2 1", 0}, said{"note 1 104 104", "5 6", 0}, said{"free anna 1", "0", 0}, said{"need 1 1", "1", 0})
	same(t, "Hands", hands, to(24, 26), to(24, 26), to(16, 18))
	same(t, "Notes", notes, api.BandNote{Kind: 0, From: 101, To: 101}, api.BandNote{Kind: 2, From: 204, To: 205})
	same(t, "Free", free, 10, 8, 2)
	same(t, "Needs", needs, 5, 9)
	if len(journal) != 8 || len(c.Journal()) != 13 || file != strings.Join(journal, "\n")+"\n" {
		t.Errorf("the journal: %q; the file: %q", journal, file)
	}
}
