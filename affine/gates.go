package affine

import (
	"iter"

	"spoondrift/api"
	"spoondrift/bits"
)

// gate is a right gate of an affine circuit; X has the first wire alone.
type gate struct {
	kind  int
	wires [2]int
}

// effect is what the gates of a kind do to a map: they take further what it takes a basis state to.
type effect struct {
	does func(x, i, k int) int
}

// effects has the kinds of affine circuits at their numbers, and nothing at others.
func effects() [api.Swap + 1]effect {
	return [...]effect{
		api.X:    {func(x, i, _ int) int { return sum(x, 1<<i) }},
		api.CX:   {func(x, i, k int) int { return sum(x, at(x, i)<<k) }},
		api.Swap: {exchanged},
	}
}

// exchanged returns a basis state after what two wires have was exchanged.
func exchanged(x, i, k int) int {
	differ := sum(at(x, i), at(x, k))
	return sum(x, differ<<i, differ<<k)
}

// affine reports whether a right gate may be one of an affine circuit.
func affine(g api.Gate) bool {
	table := effects()
	return g.If == 0 && g.Kind < len(table) && table[g.Kind].does != nil
}

// takes returns the basis state to which a gate takes one.
func (g gate) takes(x int) int { return effects()[g.kind].does(x, g.wires[0], g.wires[1]) }

// smallGates yields the small gates of so many wires, in order.
func smallGates(wires int) iter.Seq[gate] {
	return func(yield func(gate) bool) {
		for i := range wires {
			if !yield(gate{api.X, [2]int{i}}) {
				return
			}
		}
		for i := range wires {
			for k := range wires {
				if k != i && !yield(gate{api.CX, [2]int{i, k}}) {
					return
				}
			}
		}
		for i := range wires {
			for k := i + 1; k < wires; k++ {
				if !yield(gate{api.Swap, [2]int{i, k}}) {
					return
				}
			}
		}
	}
}

// run is gates going by: where 0, and then each basis state with a single 1, has been taken.
type run struct {
	wires  int
	points []int
}

func begun(wires int) *run {
	r := &run{wires, []int{0}}
	for k := range wires {
		r.points = append(r.points, 1<<k)
	}
	return r
}

// pass takes all further.
func (r *run) pass(g gate) {
	for k, x := range r.points {
		r.points[k] = g.takes(x)
	}
}

// parities returns the row that each wire has, with the shift as one column more.
func (r *run) parities() ([]int, api.Errno) {
	shift := r.points[0]
	var columns []int
	for _, x := range r.points[1:] {
		columns = append(columns, sum(x, shift))
	}
	return bits.Transpose(append(columns, shift), r.wires)
}

// reached returns the map of the gates that went by.
func (r *run) reached() (api.Affine, api.Errno) {
	had, e := r.parities()
	if e != api.OK {
		return api.Affine{}, e
	}
	m := api.Affine{Wires: r.wires, Shift: r.points[0]}
	for _, row := range had {
		m.Rows = append(m.Rows, row&(1<<r.wires-1))
	}
	return m, api.OK
}

// sum adds rows.
func sum(rows ...int) int {
	total := 0
	for _, row := range rows {
		total ^= row
	}
	return total
}

// at returns what a row has in a column.
func at(row, column int) int { return row >> column & 1 }
