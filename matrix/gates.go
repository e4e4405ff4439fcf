package matrix

import (
	"spoondrift/api"
	"spoondrift/ring"
)

// operators returns the operator of each kind of gate.
func operators() map[int][][]api.Num {
	zero, one, i := api.Num{}, ring.Omega(0), ring.Omega(2)
	minus, minusI := ring.Omega(4), ring.Omega(6)
	root, minusRoot := api.Num{A: 1, K: 1}, api.Num{A: -1, K: 1}
	return map[int][][]api.Num{
		api.X:    moved(1, 0),
		api.Y:    {{zero, minusI}, {i, zero}},
		api.Z:    diagonal(one, minus),
		api.H:    {{root, root}, {root, minusRoot}},
		api.S:    diagonal(one, i),
		api.Sd:   diagonal(one, minusI),
		api.T:    diagonal(one, ring.Omega(1)),
		api.Td:   diagonal(one, ring.Omega(7)),
		api.CX:   moved(0, 3, 2, 1),
		api.CZ:   diagonal(one, one, one, minus),
		api.Swap: moved(0, 2, 1, 3),
		api.CCX:  moved(0, 1, 2, 7, 4, 5, 6, 3),
	}
}

// moved returns the operator that takes each basis state k to the one at k.
func moved(to ...int) [][]api.Num {
	m := blank(square(len(to)))
	for k, row := range to {
		m.rows[row][k] = ring.Omega(0)
	}
	return m.rows
}

// diagonal returns the operator that multiplies each basis state k with the number at k.
func diagonal(by ...api.Num) [][]api.Num {
	m := blank(square(len(by)))
	for k, x := range by {
		m.rows[k][k] = x
	}
	return m.rows
}

// on returns an operator of as many wires as there are in the list, on these wires of n.
func (w working) on(wires []int, n int) (working, api.Errno) {
	return recipe{square(1 << n), func(p place) (api.Num, api.Errno) {
		row, below := apart(p[0], wires)
		column, beside := apart(p[1], wires)
		if below != beside {
			return api.Num{}, api.OK
		}
		return w.at(place{row, column}), api.OK
	}}.compute()
}

// apart returns the values of some wires in a basis state, as the basis state of these wires alone, and the given one without them.
func apart(state int, wires []int) (int, int) {
	var part func(wires []int) (int, int)
	part = func(wires []int) (int, int) {
		if len(wires) == 0 {
			return 0, state
		}
		values, others := part(wires[1:])
		return 2*values + state>>wires[0]&1, others &^ (1 << wires[0])
	}
	return part(wires)
}
