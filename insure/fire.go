package insure

import "lucifer/api"

// goesSurely reports whether fire goes between two lots in each truth.
func (k book) goesSurely(x pair) bool { return k.tooNear[x] == 2 }

// goesPerhaps reports whether fire goes between two lots in some truth.
func (k book) goesPerhaps(x pair) bool { return k.tooNear[x] > 0 }

// No distance depends on another one, so there is a truth in which fire goes only where it goes in each one, and one in which
// it goes wherever it does in some: these two tell what burns surely, and what perhaps.

// burnsSurely returns all lots that burn in each truth if one does.
func (p plan) burnsSurely(lot int) lots { return p.choice.fire(lot, p.goesSurely) }

// burnsPerhaps returns all lots that burn in some truth if one does.
func (p plan) burnsPerhaps(lot int) lots { return p.choice.fire(lot, p.goesPerhaps) }

// loss returns how many goods burn if a lot does.
func (p plan) loss(lot int) api.Span {
	least, most := p, p
	least.choice, most.choice = p.burnsSurely(lot), p.burnsPerhaps(lot)
	return api.Span{Low: least.goods().Low, High: most.goods().High}
}

// worst returns the first one of the lots of which the most goods burn at most. There must be one.
func (p plan) worst() int {
	worst, most := -1, -1
	for lot := range p.choice.each() {
		if goods := p.loss(lot).High; goods > most {
			worst, most = lot, goods
		}
	}
	return worst
}
