package circ

import (
	"cmp"
	"iter"
	"slices"

	"spoondrift/api"
)

// axis tells which gates of one wire a gate lets pass on a wire.
type axis int

const (
	noAxis axis = iota
	xAxis
	yAxis
	zAxis
	hAxis
)

// nature is what all gates of a kind have in common.
type nature struct {
	arity   int
	axes    [3]axis
	inverse int  // the kind that undoes it, or 0
	even    bool // its first two wires may change places
}

// natures has each kind at its number.
var natures = [...]nature{
	api.X:       {1, [3]axis{xAxis}, api.X, false},
	api.Y:       {1, [3]axis{yAxis}, api.Y, false},
	api.Z:       {1, [3]axis{zAxis}, api.Z, false},
	api.H:       {1, [3]axis{hAxis}, api.H, false},
	api.S:       {1, [3]axis{zAxis}, api.Sd, false},
	api.Sd:      {1, [3]axis{zAxis}, api.S, false},
	api.T:       {1, [3]axis{zAxis}, api.Td, false},
	api.Td:      {1, [3]axis{zAxis}, api.T, false},
	api.CX:      {2, [3]axis{zAxis, xAxis}, api.CX, false},
	api.CZ:      {2, [3]axis{zAxis, zAxis}, api.CZ, true},
	api.Swap:    {2, [3]axis{}, api.Swap, true},
	api.CCX:     {3, [3]axis{zAxis, zAxis, xAxis}, api.CCX, true},
	api.Measure: {1, [3]axis{zAxis}, 0, false},
	api.Reset:   {1, [3]axis{}, 0, false},
}

// none is no wire, and no number of a gate.
const none = -1

// wires are those of a gate, with none in the places behind them.
type wires [3]int

// gate is a right gate, as a value that can be compared.
type gate struct {
	kind      int
	wires     wires
	bit, when int
}

// read returns a right gate as a value.
func read(g api.Gate) gate {
	out := gate{g.Kind, wires{none, none, none}, g.Bit, g.If}
	copy(out.wires[:], g.Wires)
	return out
}

// written returns a gate with memory of its own.
func (g gate) written() api.Gate {
	return api.Gate{Kind: g.kind, Wires: slices.Clone(g.wires[:g.arity()]), Bit: g.bit, If: g.when}
}

func (g gate) arity() int { return natures[g.kind].arity }

// less reports whether a gate comes first in the order of gates.
func (g gate) less(h gate) bool {
	return cmp.Or(
		cmp.Compare(g.kind, h.kind),
		slices.Compare(g.wires[:], h.wires[:]),
		cmp.Compare(g.bit, h.bit),
		cmp.Compare(g.when, h.when),
	) < 0
}

// common yields the place of each wire that both gates have, in the one and in the other.
func (g gate) common(h gate) iter.Seq2[int, int] {
	return func(yield func(int, int) bool) {
		for i := range g.arity() {
			for k := range h.arity() {
				if g.wires[i] == h.wires[k] && !yield(i, k) {
					return
				}
			}
		}
	}
}

// meets reports whether two gates have a wire in common, or a bit that one of them writes.
func (g gate) meets(h gate) bool {
	for range g.common(h) {
		return true
	}
	return g.bound(h)
}

// bound reports whether one of two gates writes a bit that the other one reads or writes.
func (g gate) bound(h gate) bool { return g.writesFor(h) || h.writesFor(g) }

func (g gate) writesFor(h gate) bool {
	if g.kind != api.Measure {
		return false
	}
	return h.when == g.bit+1 || h.kind == api.Measure && h.bit == g.bit
}

// commutes reports whether two gates may change places.
func (g gate) commutes(h gate) bool {
	// gates that do not meet have no wire on which they could be at odds
	return !g.bound(h) && (g.aligned(h) || g.swaps(h) || h.swaps(g))
}

// aligned reports whether two gates have the same axis on each wire that both have.
func (g gate) aligned(h gate) bool {
	for i, k := range g.common(h) {
		x, y := natures[g.kind].axes[i], natures[h.kind].axes[k]
		if x == noAxis || x != y {
			return false
		}
	}
	return true
}

// swaps reports whether a gate exchanges two wires which the other one treats alike.
func (g gate) swaps(h gate) bool {
	return g.kind == api.Swap && (h.kind == api.Swap || h.kind == api.CZ) && g.settled().wires == h.settled().wires
}

// undoes reports whether one of two gates undoes the other one.
func (g gate) undoes(h gate) bool { return g.undoing() == h.settled() }

// undoing returns the settled gate that undoes a gate; it has no kind if there is none.
func (g gate) undoing() gate {
	g = g.settled()
	g.kind = natures[g.kind].inverse
	return g
}

// settled returns a gate with those wires rising that may change places.
func (g gate) settled() gate {
	if natures[g.kind].even {
		low, high := min(g.wires[0], g.wires[1]), max(g.wires[0], g.wires[1])
		g.wires[0], g.wires[1] = low, high
	}
	return g
}
