package matrix

import (
	"spoondrift/api"
	"spoondrift/ring"
)

// place is a row and a column.
type place [2]int

func (p place) turned() place { return place{p[1], p[0]} }

// sides is how many rows and columns there are.
type sides struct{ high, wide int }

func square(side int) sides { return sides{side, side} }

func (s sides) turned() sides { return sides{s.wide, s.high} }

// places yields all places, row by row.
func (s sides) places(yield func(place) bool) {
	for row := range s.high {
		for column := range s.wide {
			if !yield(place{row, column}) {
				return
			}
		}
	}
}

// grid is rows, with their sides.
type grid struct {
	sides
	rows [][]api.Num
}

// working is a matrix at work: it is right, all its numbers are in least form, and nobody else has its rows.
type working struct{ grid }

func (w working) at(p place) api.Num { return w.rows[p[0]][p[1]] }

// conjugate returns the element of the Dagger at a place.
func (w working) conjugate(p place) (api.Num, api.Errno) { return ring.Conj(w.at(p.turned())) }

// taken returns a copy of a matrix, with all numbers in least form.
func taken(m [][]api.Num) (working, api.Errno) {
	if e := Check(m); e != api.OK {
		return working{}, e
	}
	w := blank(sides{len(m), len(m[0])})
	for row := range w.high {
		copy(w.rows[row], m[row])
	}
	for p := range w.places {
		x, e := ring.Least(w.at(p))
		if e != api.OK {
			return working{}, e
		}
		w.rows[p[0]][p[1]] = x
	}
	return w, api.OK
}

// bothTaken takes two matrices, one after the other.
func bothTaken(m, n [][]api.Num) (working, working, api.Errno) {
	a, e := taken(m)
	if e != api.OK {
		return working{}, working{}, e
	}
	b, e := taken(n)
	if e != api.OK {
		return working{}, working{}, e
	}
	return a, b, api.OK
}

// joined returns what is made of two matrices.
func joined(m, n [][]api.Num, do func(a, b working) (working, api.Errno)) ([][]api.Num, api.Errno) {
	a, b, e := bothTaken(m, n)
	if e != api.OK {
		return nil, e
	}
	c, e := do(a, b)
	return c.rows, e
}

// upright returns a vector as a matrix of one column.
func upright(v []api.Num) (working, api.Errno) {
	lying, e := taken([][]api.Num{v})
	if e != api.OK {
		return working{}, e
	}
	return recipe{lying.turned(), func(p place) (api.Num, api.Errno) { return lying.at(p.turned()), api.OK }}.compute()
}

// blank returns rows of 0; each has memory of its own, as a result must not share any between its rows.
func blank(s sides) working {
	rows := make([][]api.Num, s.high)
	for row := range s.high {
		rows[row] = make([]api.Num, s.wide)
	}
	return working{grid{s, rows}}
}

// recipe is how the element at each place is computed.
type recipe struct {
	sides
	element func(place) (api.Num, api.Errno)
}

// compute goes through the elements row by row, and ends with the first error.
func (r recipe) compute() (working, api.Errno) {
	w := blank(r.sides)
	for p := range r.places {
		x, e := r.element(p)
		if e != api.OK {
			return working{}, e
		}
		w.rows[p[0]][p[1]] = x
	}
	return w, api.OK
}

// unit returns the matrix with 1 where row and column are the same.
func unit(side int) (working, api.Errno) {
	return recipe{square(side), func(p place) (api.Num, api.Errno) {
		if p == p.turned() {
			return ring.Omega(0), api.OK
		}
		return api.Num{}, api.OK
	}}.compute()
}

func (w working) same(other working) bool {
	if w.sides != other.sides {
		return false
	}
	for p := range w.places {
		if w.at(p) != other.at(p) {
			return false
		}
	}
	return true
}

func (w working) dagger() (working, api.Errno) { return recipe{w.turned(), w.conjugate}.compute() }

func (w working) plus(other working) (working, api.Errno) {
	if w.sides != other.sides {
		return working{}, api.ErrClash
	}
	return recipe{w.sides, func(p place) (api.Num, api.Errno) { return total(w.at(p), other.at(p)) }}.compute()
}

func (w working) times(other working) (working, api.Errno) {
	if w.wide != other.high {
		return working{}, api.ErrClash
	}
	return recipe{sides{w.high, other.wide}, func(p place) (api.Num, api.Errno) {
		var products []api.Num
		for k := range w.wide {
			x, y := w.at(place{p[0], k}), other.at(place{k, p[1]})
			// operators have many 0, which are never too large, and change no sum
			if x == (api.Num{}) || y == (api.Num{}) {
				continue
			}
			product, e := ring.Mul(x, y)
			if e != api.OK {
				return api.Num{}, e
			}
			products = append(products, product)
		}
		return total(products...)
	}}.compute()
}

func (w working) blocks(other working) (working, api.Errno) {
	s := sides{w.high * other.high, w.wide * other.wide}
	if s.high > MaxSide || s.wide > MaxSide {
		return working{}, api.ErrMany
	}
	return recipe{s, func(p place) (api.Num, api.Errno) {
		block := place{p[0] / other.high, p[1] / other.wide}
		within := place{p[0] % other.high, p[1] % other.wide}
		return ring.Mul(w.at(block), other.at(within))
	}}.compute()
}

// total adds numbers, from the left to the right.
func total(l ...api.Num) (api.Num, api.Errno) { return ring.Sum(l) }
