package full

import (
	"math/bits"

	"spoondrift/api"
	"spoondrift/matrix"
	"spoondrift/ring"
)

// state is amplitudes in least form, as many as there are basis states; it is not changed once it is made.
type state []api.Num

// taken returns a copy of a state, with all amplitudes in least form.
func taken(v []api.Num) (state, api.Errno) {
	if e := Check(v); e != api.OK {
		return nil, e
	}
	s := make(state, len(v))
	copy(s, v)
	for k, x := range s {
		least, e := ring.Least(x)
		if e != api.OK {
			return nil, e
		}
		s[k] = least
	}
	return s, api.OK
}

// basis returns the basis state k of so many wires.
func basis(wires, k int) state {
	s := make(state, 1<<wires)
	s[k] = ring.Omega(0)
	return s
}

func (s state) wires() int { return bits.Len(uint(len(s))) - 1 }

// dead reports whether a state has only 0.
func (s state) dead() bool {
	return all(s, func(x api.Num) bool { return x == (api.Num{}) })
}

// norm returns the sum of the norms of the amplitudes.
func (s state) norm() (api.Num, api.Errno) {
	norms := make([]api.Num, len(s))
	for k, x := range s {
		norm, e := ring.Norm(x)
		if e != api.OK {
			return api.Num{}, e
		}
		norms[k] = norm
	}
	return total(norms...)
}

// total adds numbers, from the left to the right.
func total(l ...api.Num) (api.Num, api.Errno) { return ring.Sum(l) }

// turn returns the least k so that s is w^k times a state with as many amplitudes.
func (s state) turn(t state) (int, api.Errno) {
	found, e := 0, api.ErrNone
search:
	for k := range 8 {
		for i, x := range t {
			if turned, f := ring.Mul(ring.Omega(k), x); f != api.OK || turned != s[i] {
				continue search
			}
		}
		found, e = k, api.OK
		break search
	}
	return found, e
}

// found returns the state after an outcome of a wire was found.
func (s state) found(wire, outcome int) state {
	out := make(state, len(s))
	for k := range len(s) {
		if bitOf(k, wire) == outcome {
			out[k] = s[k]
		}
	}
	return out
}

// bitOf returns a bit of a number.
func bitOf(n, bit int) int { return n >> bit & 1 }

// withBit returns a number with another value of a bit.
func withBit(n, bit, value int) int { return n&^(1<<bit) | value<<bit }

// kit has the operators of kinds that were made, by kind.
type kit map[int][][]api.Num

// operator returns the operator of a kind, which nobody may change.
func (k kit) operator(kind int) ([][]api.Num, api.Errno) {
	if m, ok := k[kind]; ok {
		return m, api.OK
	}
	m, e := matrix.Of(kind)
	if e != api.OK {
		return nil, e
	}
	k[kind] = m
	return m, api.OK
}

// gate is a gate with the operator that it applies to its wires.
type gate struct {
	api.Gate
	operator [][]api.Num
}

// after returns the state after the operator was applied.
func (g gate) after(s state) ([]api.Num, api.Errno) {
	out := make(state, len(s))
	for k := range len(s) {
		x, e := g.amplitude(s, k)
		if e != api.OK {
			return nil, e
		}
		out[k] = x
	}
	return out, api.OK
}

// amplitude returns that of the basis state k after the operator was applied.
func (g gate) amplitude(s state, k int) (api.Num, api.Errno) {
	sum := api.Num{}
	for column, factor := range g.operator[g.values(k)] {
		x := s[g.changed(k, column)]
		// a product with the amplitude 0 is never too large, and changes no sum
		if factor == (api.Num{}) || x == (api.Num{}) {
			continue
		}
		product, e := ring.Mul(factor, x)
		if e != api.OK {
			return api.Num{}, e
		}
		sum, e = ring.Add(sum, product)
		if e != api.OK {
			return api.Num{}, e
		}
	}
	return sum, api.OK
}

// values returns the values of the gate's wires in a basis state, as a basis state of these wires alone.
func (g gate) values(k int) int {
	values := 0
	for i, wire := range g.Wires {
		values |= bitOf(k, wire) << i
	}
	return values
}

// changed returns a basis state with other values of the gate's wires.
func (g gate) changed(k, values int) int {
	for i, wire := range g.Wires {
		k = withBit(k, wire, bitOf(values, i))
	}
	return k
}
