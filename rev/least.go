package rev

import (
	"iter"
	"slices"
)

// eight is the table of a permutation of up to MaxWide wires; wires behind them are left as they are.
type eight [1 << MaxWide]int

// spread returns the table of a right permutation.
func spread(p []int) eight {
	var t eight
	for state := range t {
		low := state % len(p)
		t[state] = state - low + p[low]
	}
	return t
}

// then returns the table with a gate behind it.
func (t eight) then(g gate) eight {
	g.pass(t[:])
	return t
}

// settling returns the gates that lead from a permutation of so many wires back to where all is as it was, in the chapter's order.
func settling(p []int, wires int) []gate {
	f := spread(p)
	var list []gate
	add := func(wire int, controls ...int) {
		g := turning(wire, controls...)
		list = append(list, g)
		f = f.then(g)
	}
	// 0 has no bits, so that no gate for it has controls: these are the X that come first
	for i := range states(wires) {
		for k := range ones(i &^ f[i]) {
			add(k, slices.Collect(ones(f[i]))...)
		}
		for k := range ones(f[i] &^ i) {
			add(k, slices.Collect(ones(i))...)
		}
	}
	return list
}

// turnings yields all gates X, CX and CCX of so many wires.
func turnings(wires int) iter.Seq[gate] {
	return func(yield func(gate) bool) {
		for wire := range wires {
			for controls := range states(wires) {
				if !bit(controls, wire) && !yield(turning(wire, slices.Collect(ones(controls))...)) {
					return
				}
			}
		}
	}
}

// meeting is how a permutation was met first: the number of gates that lead to it, the last one of them, and the permutation before that.
type meeting struct {
	gates  int
	last   gate
	before eight
}

// met is the permutations that were met.
type met map[eight]meeting

// search meets the permutations of so many wires that need at most so many gates, those that need fewer ones first, until one of them is enough.
func search(wires, most int, enough func(eight) bool) met {
	begin := spread([]int{0})
	found, list := met{begin: {}}, []eight{begin}
gates:
	for at := 0; at < len(list); at++ {
		here := list[at]
		how := found[here]
		switch {
		case enough(here), how.gates == most:
			break gates
		}
		for g := range turnings(wires) {
			if g == how.last {
				continue // it would undo itself
			}
			next := here.then(g)
			if _, ok := found[next]; !ok {
				found[next] = meeting{how.gates + 1, g, here}
				list = append(list, next)
			}
		}
	}
	return found
}

// way returns the gates that led to a permutation that was met.
func (f met) way(t eight) []gate {
	var list []gate
	for f[t].gates > 0 {
		list = append(list, f[t].last)
		t = f[t].before
	}
	slices.Reverse(list)
	return list
}

// count returns how many of those that were met need just so many gates.
func (f met) count(gates int) int {
	many := 0
	for _, how := range f {
		if how.gates == gates {
			many++
		}
	}
	return many
}
