package foreman

import (
	"iter"
	"strconv"
	"strings"

	"lucifer/api"
)

// nameOf stands in the tokens of a line for the name of a worker.
const nameOf = 'T'

// act is what lines with the same first token do.
type act struct {
	tokens string            // what stands behind the first one, by the letters of the chapter: a name, or else a number
	change func(task)        // changes something; there is none if the line asks
	layer  func(task) string // asks a layer for the answer
}

// table is what lines do, by their first tokens.
type table map[string]act

// acts tells what all lines do.
func acts() table {
	return table{
		"knot":    {"KAN", task.findKnot, task.pieces},
		"hand":    {"NM", task.addHand, task.boxes},
		"count":   {"KN", task.countHand, task.boxes},
		"note":    {"KNM", task.addNote, task.missing},
		"free":    {"TN", task.freeWorker, task.enough},
		"need":    {"KN", task.needHours, task.enough},
		"best":    {"", nil, task.best},
		"waste":   {"", nil, task.waste},
		"hope":    {"", nil, task.hope},
		"knots":   {"", nil, task.knot},
		"plan":    {"", nil, task.ends},
		"byhand":  {"", nil, task.byHand},
		"over":    {"", nil, task.over},
		"any":     {"N", nil, task.any},
		"weigh":   {"", nil, task.hand},
		"missing": {"", nil, task.missing},
		"gaps":    {"", nil, task.gaps},
		"what":    {"N", nil, task.what},
		"due":     {"N", nil, task.due},
		"turns":   {"", nil, task.turns},
		"short":   {"", nil, task.short},
		"spared":  {"", nil, task.spared},
		"hire":    {"", nil, task.hire},
		"allowed": {"TK", nil, task.allowed},
	}
}

// order is what a line says.
type order struct {
	act
	name    string
	numbers []int
}

// read returns what a text says, and whether it has the form of a line.
func (a table) read(text string) (order, bool) {
	if len(text) > api.ForemanLine || strings.Contains(text, "\n") {
		return order{}, false
	}
	words := strings.Split(text, " ")
	does, known := a[words[0]]
	if !known || len(words) != 1+len(does.tokens) {
		return order{}, false
	}
	o, fits := order{act: does}, true
tokens:
	for i, word := range words[1:] {
		switch named := does.tokens[i] == nameOf; {
		case named && word != "":
			o.name = word
		case !named && isNumber(word):
			n, _ := strconv.Atoi(word)
			o.numbers = append(o.numbers, n)
		default:
			fits = false
			break tokens
		}
	}
	return o, fits
}

// asks reports whether a text is a line that asks.
func (a table) asks(text string) bool {
	o, is := a.read(text)
	return is && o.change == nil
}

// isNumber reports whether a token is a number.
func isNumber(token string) bool {
	return has(to(1, api.ForemanDigits), len(token)) && only(token, digits) && (token == "0" || token[0] != '0')
}

// lines produces the lines of a file, each of which ends with a line feed.
func lines(file string) iter.Seq[string] {
	return func(yield func(string) bool) {
		for rest := file; rest != ""; {
			line, behind, _ := strings.Cut(rest, "\n")
			if !yield(line) {
				return
			}
			rest = behind
		}
	}
}

// answer returns the answer of some numbers.
func answer(numbers ...int) string {
	if len(numbers) == 0 {
		return "-"
	}
	var words []string
	for _, n := range numbers {
		words = append(words, strconv.Itoa(n))
	}
	return strings.Join(words, " ")
}

// ofSpan returns the answer of a span.
func ofSpan(s api.Span) string { return answer(s.Low, s.High) }

// whether returns the answer that tells whether something is so.
func whether(is bool) string {
	if is {
		return answer(1)
	}
	return answer(0)
}
