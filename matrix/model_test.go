package matrix_test

import (
	"math"
	"math/cmplx"
	"slices"

	"spoondrift/api"
	"spoondrift/ring"
)

// The model computes element by element, number by number, as the chapter says it, and knows nothing of rows at work.

type rows = [][]api.Num

// draws are numbers that look drawn, the same ones in each run.
type draws uint64

func (d *draws) below(n int) int {
	*d = *d*6364136223846793005 + 1442695040888963407
	return int(uint64(*d)>>33) % n
}

// num returns a number with coefficients up to most, and a K up to k; often it is 0 or a power of w.
func (d *draws) num(most, k int) api.Num {
	switch d.below(4) {
	case 0:
		return api.Num{K: d.below(k + 1)}
	case 1:
		return ring.Omega(d.below(8))
	}
	part := func() int { return d.below(2*most+1) - most }
	return api.Num{A: part(), B: part(), C: part(), D: part(), K: d.below(k + 1)}
}

func (d *draws) vector(n, most, k int) []api.Num {
	v := make([]api.Num, n)
	for i := range v {
		v[i] = d.num(most, k)
	}
	return v
}

func (d *draws) matrix(high, wide, most, k int) rows {
	m := make(rows, high)
	for i := range m {
		m[i] = d.vector(wide, most, k)
	}
	return m
}

// wires returns k different wires of n, in any order.
func (d *draws) wires(k, n int) []int {
	var l []int
	for len(l) < k {
		if wire := d.below(n); !slices.Contains(l, wire) {
			l = append(l, wire)
		}
	}
	return l
}

// written returns the same values in other forms, with a greater K.
func (d *draws) written(m rows) rows {
	out := clone(m)
	for i := range out {
		for k, x := range out[i] {
			if twos := d.below(3); x.K+2*twos <= api.MaxRoot && max(x.A, x.B, x.C, x.D, -x.A, -x.B, -x.C, -x.D) <= 1<<20 {
				out[i][k] = api.Num{A: x.A << twos, B: x.B << twos, C: x.C << twos, D: x.D << twos, K: x.K + 2*twos}
			}
		}
	}
	return out
}

func clone(m rows) rows {
	out := make(rows, len(m))
	for i := range m {
		out[i] = slices.Clone(m[i])
	}
	return out
}

func equal(m, n rows) bool {
	return slices.EqualFunc(m, n, func(a, b []api.Num) bool { return slices.Equal(a, b) })
}

// leastOf returns a matrix with all numbers in least form.
func leastOf(m rows) rows {
	out := clone(m)
	for i := range out {
		for k := range out[i] {
			out[i][k], _ = ring.Least(out[i][k])
		}
	}
	return out
}

// built computes a matrix place by place.
func built(high, wide int, element func(i, k int) (api.Num, api.Errno)) (rows, api.Errno) {
	m := make(rows, high)
	for i := range m {
		m[i] = make([]api.Num, wide)
		for k := range m[i] {
			x, e := element(i, k)
			if e != api.OK {
				return nil, e
			}
			m[i][k] = x
		}
	}
	return m, api.OK
}

func modelAdd(m, n rows) (rows, api.Errno) {
	if len(m) != len(n) || len(m[0]) != len(n[0]) {
		return nil, api.ErrClash
	}
	return built(len(m), len(m[0]), func(i, k int) (api.Num, api.Errno) { return ring.Add(m[i][k], n[i][k]) })
}

func modelMul(m, n rows) (rows, api.Errno) {
	if len(m[0]) != len(n) {
		return nil, api.ErrClash
	}
	return built(len(m), len(n[0]), func(i, k int) (api.Num, api.Errno) {
		sum, e := ring.Mul(m[i][0], n[0][k])
		for j := 1; j < len(n) && e == api.OK; j++ {
			var x api.Num
			if x, e = ring.Mul(m[i][j], n[j][k]); e == api.OK {
				sum, e = ring.Add(sum, x)
			}
		}
		return sum, e
	})
}

func modelKron(m, n rows) (rows, api.Errno) {
	r, s := len(n), len(n[0])
	if len(m)*r > 64 || len(m[0])*s > 64 {
		return nil, api.ErrMany
	}
	out, _ := built(len(m)*r, len(m[0])*s, func(int, int) (api.Num, api.Errno) { return api.Num{}, api.OK })
	for a := range m {
		for b := range m[a] {
			for c := range n {
				for d := range n[c] {
					x, e := ring.Mul(m[a][b], n[c][d])
					if e != api.OK {
						return nil, e
					}
					out[a*r+c][b*s+d] = x
				}
			}
		}
	}
	return out, api.OK
}

func modelDagger(m rows) rows {
	out, _ := built(len(m[0]), len(m), func(i, k int) (api.Num, api.Errno) { return ring.Conj(m[k][i]) })
	return out
}

func modelScale(m rows, x api.Num) (rows, api.Errno) {
	return built(len(m), len(m[0]), func(i, k int) (api.Num, api.Errno) { return ring.Mul(m[i][k], x) })
}

func modelTrace(m rows) (api.Num, api.Errno) {
	if len(m) != len(m[0]) {
		return api.Num{}, api.ErrClash
	}
	sum, e := ring.Least(m[0][0])
	for i := 1; i < len(m) && e == api.OK; i++ {
		sum, e = ring.Add(sum, m[i][i])
	}
	if e != api.OK {
		return api.Num{}, e
	}
	return sum, api.OK
}

// upright and lying are vectors as matrices.
func upright(v []api.Num) rows {
	var m rows
	for _, x := range v {
		m = append(m, []api.Num{x})
	}
	return m
}

func modelApply(m rows, v []api.Num) ([]api.Num, api.Errno) {
	p, e := modelMul(m, upright(v))
	var out []api.Num
	for _, row := range p {
		out = append(out, row[0])
	}
	return out, e
}

func modelInner(v, u []api.Num) (api.Num, api.Errno) {
	p, e := modelMul(modelDagger(upright(v)), upright(u))
	if e != api.OK {
		return api.Num{}, e
	}
	return p[0][0], api.OK
}

// modelOne is the matrix with 1 at the same row and column.
func modelOne(side int) rows {
	m, _ := built(side, side, func(i, k int) (api.Num, api.Errno) {
		if i == k {
			return api.Num{A: 1}, api.OK
		}
		return api.Num{}, api.OK
	})
	return m
}

// modelOn puts an operator on wires of n: each basis state goes to those that differ from it in these wires alone.
func modelOn(m rows, wires []int, n int) rows {
	out, _ := built(1<<n, 1<<n, func(int, int) (api.Num, api.Errno) { return api.Num{}, api.OK })
	for from := range 1 << n {
		column := 0
		for i, wire := range wires {
			column |= from >> wire & 1 << i
		}
		for row := range m {
			to := from
			for i, wire := range wires {
				to = to&^(1<<wire) | row>>i&1<<wire
			}
			out[to][from], _ = ring.Least(m[row][column])
		}
	}
	return out
}

// value is what a number is, about.
func value(x api.Num) complex128 {
	w := cmplx.Rect(1, math.Pi/4)
	sum := complex(float64(x.A), 0) + complex(float64(x.B), 0)*w + complex(float64(x.C), 0)*w*w + complex(float64(x.D), 0)*w*w*w
	return sum / complex(math.Pow(2, float64(x.K)/2), 0)
}

func near(a, b complex128) bool { return cmplx.Abs(a-b) < 1e-9 }
