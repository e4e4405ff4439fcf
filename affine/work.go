package affine

import (
	"slices"

	"spoondrift/api"
	"spoondrift/bits"
)

// working is a right map at work: nobody else has its rows.
type working struct {
	api.Affine
}

// taken returns a map at work, if it is right.
func taken(m api.Affine) (working, api.Errno) {
	if e := Check(m); e != api.OK {
		return working{}, e
	}
	w := working{m}
	w.Rows = slices.Clone(m.Rows)
	return w, api.OK
}

// takes returns the basis state to which one is taken.
func (w working) takes(x int) int {
	// the rows are right, and so is x, so that there is no error
	y, _ := bits.Apply(w.Rows, w.Wires, x)
	return sum(y, w.Shift)
}

// order returns how often a map is done until each basis state is where it was.
func (w working) order() int {
	// a map is known by where it takes 0 and each basis state with a single 1, so that it is done when these are back, all at once
	order := orbit(w.takes, 0)
	for k := range w.Wires {
		length := orbit(w.takes, 1<<k)
		order = order / divisor(order, length) * length
	}
	return order
}

// orbit returns after how many steps a basis state is back.
func orbit(step func(int) int, x int) int {
	steps := 1
	for y := step(x); y != x; y = step(y) {
		steps++
	}
	return steps
}

// divisor returns the greatest divisor of two numbers.
func divisor(a, b int) int {
	for b != 0 {
		a, b = b, a%b
	}
	return a
}

// fixed returns what Fixed returns.
func (w working) fixed() ([]int, int, api.Errno) {
	// what is added to x is a sum of bits of x, and then the shift: for what is fixed this is 0
	var added []int
	for i, row := range w.Rows {
		added = append(added, sum(row, 1<<i))
	}
	x, e := bits.Solve(added, w.Wires, w.Shift)
	if e != api.OK {
		return nil, 0, e
	}
	rows, e := bits.Null(added, w.Wires)
	if e != api.OK {
		return nil, 0, e
	}
	return rows, x, api.OK
}

// canonical returns the gates of the canonical circuit.
func (w working) canonical() []gate {
	rows := slices.Clone(w.Rows)
	var told []gate
	add := func(from, to int) {
		rows[to] = sum(rows[to], rows[from])
		told = append(told, gate{api.CX, [2]int{from, to}})
	}
	for k := range rows {
	pivot:
		for j := k; j < len(rows); j++ {
			switch {
			case at(rows[j], k) == 1 && j == k:
				break pivot
			case at(rows[j], k) == 1:
				add(j, k)
				break pivot
			}
		}
		for i := range rows {
			if i != k && at(rows[i], k) == 1 {
				add(k, i)
			}
		}
	}
	slices.Reverse(told)
	for i := range rows {
		if at(w.Shift, i) == 1 {
			told = append(told, gate{api.X, [2]int{i}})
		}
	}
	return told
}
