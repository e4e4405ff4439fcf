package rev

import (
	"iter"
	"slices"

	"spoondrift/api"
	"spoondrift/circ"
)

// gate is a right gate of a classical circuit, as a value that can be compared.
type gate struct {
	kind  int
	wires [3]int
}

// turning returns the gate that turns a wire where all controls are 1.
func turning(wire int, controls ...int) gate {
	kinds := [...]int{api.X, api.CX, api.CCX}
	g := gate{kind: kinds[len(controls)]}
	copy(g.wires[:], controls)
	g.wires[len(controls)] = wire
	return g
}

func (g gate) arity() int { return circ.Arity(g.kind) }

// turn turns the last wire of a gate where all others are 1.
func (g gate) turn(state int) int {
	last := g.arity() - 1
	for _, control := range g.wires[:last] {
		if !bit(state, control) {
			return state
		}
	}
	return state ^ 1<<g.wires[last]
}

// exchange changes the first two wires of a gate.
func (g gate) exchange(state int) int {
	if bit(state, g.wires[0]) == bit(state, g.wires[1]) {
		return state
	}
	return state ^ 1<<g.wires[0] ^ 1<<g.wires[1]
}

// deed is what a gate does, by its kind.
type deed struct {
	makes func(state int) int
}

func (g gate) deed() deed {
	if g.kind == api.Swap {
		return deed{g.exchange}
	}
	return deed{g.turn}
}

// pass takes states through a gate.
func (g gate) pass(states []int) {
	d := g.deed()
	for i, state := range states {
		states[i] = d.makes(state)
	}
}

// circuit is a right classical circuit at work: nobody else has its gates.
type circuit struct {
	wires, bits int
	gates       []gate
}

// read returns a classical circuit at work.
func read(c api.Circuit) (circuit, api.Errno) {
	if e := circ.Check(c); e != api.OK {
		return circuit{}, e
	}
	if _, other := find(slices.Values(c.Gates), unclassical); other {
		return circuit{}, api.ErrClash
	}
	w := circuit{c.Wires, c.Bits, make([]gate, len(c.Gates))}
	for i, g := range c.Gates {
		w.gates[i].kind = g.Kind
		copy(w.gates[i].wires[:], g.Wires)
	}
	return w, api.OK
}

// unclassical reports whether a right gate cannot be one of a classical circuit.
func unclassical(g api.Gate) bool {
	switch g.Kind {
	case api.X, api.CX, api.Swap, api.CCX:
		return g.If != 0
	}
	return true
}

// written returns a circuit whose gates have memory of their own.
func (c circuit) written() api.Circuit {
	out := api.Circuit{Wires: c.wires, Bits: c.bits}
	for _, g := range c.gates {
		out.Gates = append(out.Gates, api.Gate{Kind: g.kind, Wires: slices.Clone(g.wires[:g.arity()])})
	}
	return out
}

// makes returns what the circuit makes of a state.
func (c circuit) makes(state int) int {
	now := []int{state}
	for _, g := range c.gates {
		g.pass(now)
	}
	return now[0]
}

// table returns what the circuit makes of each state.
func (c circuit) table() []int {
	table := slices.Collect(states(c.wires))
	for _, g := range c.gates {
		g.pass(table)
	}
	return table
}

// lent returns a classical circuit at work, and the bits of some of its wires.
func lent(c api.Circuit, wires []int) (circuit, int, api.Errno) {
	w, e := read(c)
	if e != api.OK {
		return circuit{}, 0, e
	}
	set, e := gathered(wires, w.wires, api.ErrNot)
	if e != api.OK {
		return circuit{}, 0, e
	}
	return w, set, api.OK
}

// least returns the least number of a state that is as it is asked for.
func (c circuit) least(ask func(state int) bool) (int, api.Errno) {
	state, is := find(states(c.wires), ask)
	if !is {
		return 0, api.ErrNone
	}
	return state, api.OK
}

// states yields the numbers of all states of so many wires, rising.
func states(wires int) iter.Seq[int] {
	return func(yield func(int) bool) {
		for state := range 1 << wires {
			if !yield(state) {
				return
			}
		}
	}
}

// ones yields the bits of a number, rising.
func ones(x int) iter.Seq[int] {
	return func(yield func(int) bool) {
		for k := 0; x>>k != 0; k++ {
			if bit(x, k) && !yield(k) {
				return
			}
		}
	}
}

// find returns the first element that is as it is asked for, if there is one.
func find[E any](l iter.Seq[E], ask func(E) bool) (E, bool) {
	for x := range l {
		if ask(x) {
			return x, true
		}
	}
	var none E
	return none, false
}

// gathered returns the number with the bits of a list: the error missing if one of them is not below n, ErrTwice if one comes twice.
func gathered(l []int, n int, missing api.Errno) (int, api.Errno) {
	if _, is := find(slices.Values(l), func(x int) bool { return !below(x, n) }); is {
		return 0, missing
	}
	set := 0
	for _, x := range l {
		if bit(set, x) {
			return 0, api.ErrTwice
		}
		set |= 1 << x
	}
	return set, api.OK
}

// below reports whether a number is from 0 to n - 1.
func below(x, n int) bool { return x >= 0 && x < n }

// bit reports whether a bit of a number is 1.
func bit(x, k int) bool { return x>>k&1 == 1 }
