package tunnel

import "lucifer/api"

// run is a frame that goes through the tunnel by a setting.
type run struct {
	frame int
	set   setting
}

// book is a valid book, with what was found out of it so far.
type book struct {
	api.TunnelBook
	dried map[run]bool // whether the frame surely is dry in time
}

// open returns the book of a valid one.
func open(b api.TunnelBook) book {
	return book{TunnelBook: b, dried: map[run]bool{}}
}

// frames returns all frames of which something is so, increasing.
func (b book) frames(is func(frame int) bool) []int {
	var list []int
	for f := range b.Frames {
		if is(f) {
			list = append(list, f)
		}
	}
	return list[:len(list):len(list)]
}

// passage is what the tunnel does by a setting.
type passage struct {
	book
	set setting
}

func (b book) by(set setting) passage { return passage{book: b, set: set} }

// heat returns the heat of the setting.
func (p passage) heat() int {
	var heats [api.TunnelParts]int
	for i := range len(p.Parts) {
		heats[i] = p.Parts[i].Heat[p.set[i]]
	}
	return sum(heats[:]...)
}

// dries returns how dry a frame is if all damp is at an end of what is known of it.
func (p passage) dries(frame int, damp func(part) int) int {
	var dry [api.TunnelParts]int
	for i := range len(p.Parts) {
		at := part{p.Parts[i]}
		dry[i] = p.Frames[frame].Stay[i] * max(0, at.Heat[p.set[i]]-damp(at))
	}
	return sum(dry[:]...)
}

// dryness returns how dry a frame is, at least and at most.
func (p passage) dryness(frame int) api.Span {
	e := ends()
	return api.Span{Low: p.dries(frame, e[0].damp), High: p.dries(frame, e[1].damp)}
}

// kind returns what becomes of a frame.
func (p passage) kind(number int) int {
	kind := api.TunnelDry
	for _, e := range ends() {
		if e.wrong(frame{p.Frames[number]}, p.dries(number, e.damp)) {
			kind += e.kind
		}
	}
	return kind
}

// dry reports whether a frame surely is dry in time.
func (p passage) dry(frame int) bool {
	r := run{frame: frame, set: p.set}
	is, found := p.dried[r]
	if !found {
		is = p.kind(frame) == api.TunnelDry
		p.dried[r] = is
	}
	return is
}

// longer returns for how many minutes more a frame that is dry in time can stay in a part, and still is.
func (p passage) longer(frame, part int) int {
	more := api.TunnelStay - p.Frames[frame].Stay[part]
	for more > 0 && !open(delayed(p.TunnelBook, frame, part, more)).by(p.set).dry(frame) {
		more--
	}
	return more
}

// sum returns the sum of several numbers.
func sum[N ~int](numbers ...N) N {
	var all N
	for _, n := range numbers {
		all += n
	}
	return all
}
