package affine

import (
	"slices"

	"spoondrift/api"
	"spoondrift/bits"
)

// columns are those of the rows of a map of at most MaxSmall wires, with 0 behind them.
type columns [MaxSmall]int

// small is a map of at most MaxSmall wires.
type small struct {
	columns
	shift int
}

// takenSmall returns a map as a small one, if it is right and not too large.
func takenSmall(m api.Affine) (small, api.Errno) {
	w, e := taken(m)
	if e != api.OK {
		return small{}, e
	}
	if w.Wires > MaxSmall {
		return small{}, api.ErrLarge
	}
	s := small{shift: w.Shift}
	for k := range w.Wires {
		s.columns[k] = sum(w.takes(1<<k), w.Shift)
	}
	return s, api.OK
}

// wide returns a small map of so many wires as others know it.
func (s small) wide(wires int) (api.Affine, api.Errno) {
	rows, e := bits.Transpose(s.columns[:wires], wires)
	if e != api.OK {
		return api.Affine{}, e
	}
	return api.Affine{Wires: wires, Rows: rows, Shift: s.shift}, api.OK
}

// then returns the map with a gate behind it.
func (s small) then(g gate) small {
	// what a gate turns over, whatever it finds, is for the shift alone
	turned := g.takes(0)
	for k, column := range s.columns {
		s.columns[k] = sum(g.takes(column), turned)
	}
	s.shift = g.takes(s.shift)
	return s
}

// still returns the small map that takes each basis state of so many wires to itself.
func still(wires int) small {
	s := small{}
	for k := range wires {
		s.columns[k] = 1 << k
	}
	return s
}

// numbering has the columns of all right maps of so many wires, in order, and the place of each.
type numbering struct {
	wires int
	list  []columns
	place map[columns]int
}

// numbered goes through all rows that can be inverted, in order.
func numbered(wires int) (numbering, api.Errno) {
	if wires < 1 || wires > MaxSmall {
		return numbering{}, api.ErrRange
	}
	n := numbering{wires: wires, place: map[columns]int{}}
	var extend func(rows, span []int)
	extend = func(rows, span []int) {
		if len(rows) == wires {
			n.add(rows)
			return
		}
		for row := range 1 << wires {
			if !slices.Contains(span, row) {
				extend(slices.Concat(rows, []int{row}), spanned(span, row))
			}
		}
	}
	extend(nil, []int{0})
	return n, api.OK
}

// spanned returns the members of a span, and their sums with a row.
func spanned(span []int, row int) []int {
	wider := slices.Clone(span)
	for _, member := range span {
		wider = append(wider, sum(member, row))
	}
	return wider
}

// add puts rows behind those that are there.
func (n *numbering) add(rows []int) {
	var c columns
	for i, row := range rows {
		for k := range n.wires {
			c[k] |= at(row, k) << i
		}
	}
	n.place[c] = len(n.list)
	n.list = append(n.list, c)
}

func (n numbering) count() int { return len(n.list) << n.wires }

func (n numbering) number(s small) int { return n.place[s.columns]<<n.wires | s.shift }

func (n numbering) nth(number int) small {
	return small{n.list[number>>n.wires], number & (1<<n.wires - 1)}
}

// holds reports whether a list shows how many gates are needed.
func (n numbering) holds(proof []int) bool {
	if len(proof) != n.count() || proof[n.number(still(n.wires))] != 0 {
		return false
	}
	if !all(proof, func(gates int) bool { return gates >= 0 }) {
		return false
	}
	for number, gates := range proof {
		for g := range smallGates(n.wires) {
			if other := proof[n.number(n.nth(number).then(g))]; other-gates > 1 || gates-other > 1 {
				return false
			}
		}
	}
	return true
}

// meeting is how a map was met first: the number of gates that lead to it, the last one of them, and the map before that.
type meeting struct {
	gates  int
	last   gate
	before small
}

// met is the maps that were met.
type met map[small]meeting

// search meets the maps of so many wires, those with the shortest circuits first, until one of them is enough.
func search(wires int, enough func(small) bool) met {
	begin := still(wires)
	found, list := met{begin: {}}, []small{begin}
	for i := 0; i < len(list) && !enough(list[i]); i++ {
		before := list[i]
		for g := range smallGates(wires) {
			after := before.then(g)
			if _, ok := found[after]; ok {
				continue
			}
			// of the shortest circuits of a map this is the first one, as the maps before it come in the order of theirs
			found[after] = meeting{found[before].gates + 1, g, before}
			list = append(list, after)
		}
	}
	return found
}

// way returns the gates that led to a map that was met.
func (f met) way(s small) []gate {
	var list []gate
	for f[s].gates > 0 {
		list = append(list, f[s].last)
		s = f[s].before
	}
	slices.Reverse(list)
	return list
}
