package foreman_test

import (
	"fmt"
	"math/rand"
	"slices"
	"strings"
	"testing"

	"lucifer/api"
	"lucifer/band"
	"lucifer/fill"
	"lucifer/foreman"
	"lucifer/peel"
)

// The tests in this file hold the package against the definitions, and against the chapter's properties, on many days.

const days = 150

// someDay lets a clerk do lines, and calls look before and after each one with what it was answered.
func someDay(t *testing.T, seed int64, look func(c *foreman.Foreman, m, before *model, line, answer string, e api.Errno)) *foreman.Foreman {
	t.Helper()
	r := rand.New(rand.NewSource(seed))
	s := someSetup(r)
	c, m := open(t, s), modelOf(s)
	for range 40 {
		line, before := someLine(r, m), m.clone()
		answer, e := c.Do(line)
		want, f := m.do(line)
		if answer != want || e != f {
			t.Fatalf("%q by %v after %q: %q, %d; not %q, %d", line, s, before.journal, answer, e, want, f)
		}
		if !m.has(c) {
			t.Fatalf("%q by %v after %q: %v, %v, %v, %v, %q", line, s, before.journal, c.Hands(), c.Notes(), c.Free(), c.Needs(), c.File())
		}
		look(c, m, before, line, answer, e)
	}
	return c
}

// TestDays is of P11.2, P11.3, P11.8 and P11.10: a clerk answers what the chapter says.
func TestDays(t *testing.T) {
	lines, errors := map[string]int{}, map[api.Errno]int{}
	for day := range 2 * days {
		someDay(t, int64(day), func(c *foreman.Foreman, m, before *model, line, answer string, e api.Errno) {
			first, _, _ := strings.Cut(line, " ")
			if e == api.OK {
				lines[first]++
			}
			errors[e]++
		})
	}
	for first := range right() {
		if lines[first] < 20 {
			t.Errorf("so often lines were done: %v", lines)
		}
	}
	for _, e := range []api.Errno{api.OK, api.ErrNone, api.ErrRange, api.ErrForemanUnknown, api.ErrForemanFalse} {
		if errors[e] < 100 {
			t.Errorf("so often there were errors: %v", errors)
		}
	}
}

// TestYearAgain is of P11.6: a clerk whose file is opened is the same again, and goes on alike.
func TestYearAgain(t *testing.T) {
	for day := range days {
		r := rand.New(rand.NewSource(int64(day)))
		s := someSetup(r)
		c, m := open(t, s), modelOf(s)
		for range 25 {
			line := someLine(r, m)
			m.do(line)
			c.Do(line)
		}
		again, at, e := foreman.Open(s, c.File())
		if e != api.OK || again == nil || at != len(c.Journal()) {
			t.Fatalf("Open of %v, %q: %d, %d", s, c.File(), at, e)
		}
		if before, after := everything(c), everything(again); !slices.Equal(before, after) {
			t.Fatalf("%v: %q has become %q", s, before, after)
		}
		for range 15 {
			line := someLine(r, m)
			m.do(line)
			x, e := c.Do(line)
			y, f := again.Do(line)
			if x != y || e != f {
				t.Fatalf("%q by %v after %q: %q, %d, and then %q, %d", line, s, c.File(), x, e, y, f)
			}
		}
		if c.File() != again.File() {
			t.Fatalf("%v: %q and %q", s, c.File(), again.File())
		}
	}
}

// TestNothingChanged is of P11.7: a line that is an error, or asks, changes nothing.
func TestNothingChanged(t *testing.T) {
	asked, wrong := 0, 0
	for day := range days / 3 {
		var before []string
		c := someDay(t, int64(day), func(c *foreman.Foreman, m, _ *model, line, answer string, e api.Errno) {
			first, _, _ := strings.Cut(line, " ")
			after := everything(c)
			if e != api.OK && changes(first) {
				wrong++
			} else if !changes(first) {
				asked++
			} else {
				before = nil
			}
			if before != nil && !slices.Equal(before, after) {
				t.Fatalf("%q: %q has become %q", line, before, after)
			}
			before = after
		})
		for _, line := range []string{"", "moon", "best 1", "free dora 1", "need 9 9", "knot 9 9 9", "note 0 9999 9999", "count 9 9", "hand 1 0"} {
			if answer, e := c.Do(line); answer != "" || e == api.OK {
				t.Errorf("%q: %q, %d", line, answer, e)
			}
		}
		if after := everything(c); !slices.Equal(before, after) {
			t.Fatalf("%q has become %q", before, after)
		}
	}
	if asked < 100 || wrong < 100 {
		t.Errorf("%d lines asked, %d were errors", asked, wrong)
	}
}

// TestBands is of P11.8: behind each line the book of bands can be true, of what the clerk has.
func TestBands(t *testing.T) {
	notes := 0
	for day := range days {
		someDay(t, int64(day), func(c *foreman.Foreman, m, before *model, line, answer string, e api.Errno) {
			b := m.setup.Fill
			b.Hands = c.Hands()
			plan, _ := fill.Best(b)
			book := api.BandBook{Rolls: m.setup.Rolls, Notes: c.Notes(), Fill: b, Plan: plan}
			if is, e := band.Right(book); !is || e != api.OK {
				t.Fatalf("%q after %q: %v cannot be true", line, before.journal, book)
			}
			missing, _ := band.Missing(book)
			gaps, _ := band.Gaps(book)
			for line, want := range map[string]string{"missing": fmt.Sprint(missing.Low, missing.High), "plan": list(plan), "gaps": list(gaps)} {
				if answer, e := c.Do(line); answer != want || e != api.OK {
					t.Fatalf("%s of %v: %q, not %q, %d", line, book, answer, want, e)
				}
			}
			notes += len(book.Notes)
		})
	}
	if notes < days {
		t.Errorf("there are %d notes", notes)
	}
}

// list returns the answer that has a list.
func list[T any](l []T) string {
	if len(l) == 0 {
		return "-"
	}
	return strings.NewReplacer("[", "", "]", "", "{", "", "}", "").Replace(fmt.Sprint(l))
}

// TestFound is of P11.9: what is found of knots leaves no fewer pieces, and what is counted no more boxes by hand.
func TestFound(t *testing.T) {
	found, counted := map[bool]int{}, map[bool]int{}
	for day := range 2 * days {
		someDay(t, int64(day), func(c *foreman.Foreman, m, before *model, line, answer string, e api.Errno) {
			switch first, _, _ := strings.Cut(line, " "); {
			case e != api.OK:
			case first == "knot":
				was, _ := peel.Best(before.log())
				is, _ := peel.Best(m.log())
				if len(is) < len(was) || answer != fmt.Sprint(len(is)) {
					t.Fatalf("%q after %q: %v has become %v, %q", line, before.journal, was, is, answer)
				}
				found[len(is) > len(was)]++
			case first == "count":
				was, _ := fill.ByHand(before.boxes())
				is, _ := fill.ByHand(m.boxes())
				if len(is) > len(was) || !strings.HasSuffix(answer, fmt.Sprint(" ", len(is))) {
					t.Fatalf("%q after %q: %v has become %v, %q", line, before.journal, was, is, answer)
				}
				counted[len(is) < len(was)]++
			}
		})
	}
	if found[true] < 20 || counted[true] < 20 {
		t.Errorf("so often it helped to look for a knot: %v; to count: %v", found, counted)
	}
}

// TestMoreHours is of P11.11: more free hours, or fewer that are needed, never make a plan of work impossible.
func TestMoreHours(t *testing.T) {
	r := rand.New(rand.NewSource(5))
	some := map[string]int{}
	for range days {
		s := someSetup(r)
		c := open(t, s)
		do := func(line string, args ...any) string {
			answer, e := c.Do(fmt.Sprintf(line, args...))
			if e != api.OK {
				t.Fatalf("%q, %v: %d", line, args, e)
			}
			return answer
		}
		for _, name := range s.Names {
			before := "0"
			for hours := range 13 {
				is := do("free %s %d", name, hours)
				if before == "1" && is == "0" {
					t.Fatalf("%v: with %s free for %d there is no plan", s, name, hours)
				}
				some[before+is]++
				before = is
			}
			do("free %s %d", name, r.Intn(13))
		}
		for paste := range s.Shift.Pastes {
			before := "1"
			for hours := range 41 {
				is := do("need %d %d", paste, hours)
				if before == "0" && is == "1" {
					t.Fatalf("%v: with %d needed at %d there is a plan", s, hours, paste)
				}
				some[is]++
				before = is
			}
			do("need %d %d", paste, r.Intn(10))
		}
	}
	if some["01"] < 20 || some["0"] < 100 || some["1"] < 100 {
		t.Errorf("so often there is a plan: %v", some)
	}
}
