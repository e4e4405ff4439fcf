package ring_test

import (
	"math/big"

	"spoondrift/api"
)

// exact is a number in big integers: the model that the package is compared with.
type exact struct {
	c [4]*big.Int
	k int
}

func model(x api.Num) exact {
	return exact{[4]*big.Int{big.NewInt(int64(x.A)), big.NewInt(int64(x.B)), big.NewInt(int64(x.C)), big.NewInt(int64(x.D))}, x.K}
}

// timesW multiplies with w.
func (x exact) timesW() exact {
	return exact{[4]*big.Int{new(big.Int).Neg(x.c[3]), x.c[0], x.c[1], x.c[2]}, x.k}
}

// level multiplies above and below with r = w - w^3.
func (x exact) level() exact {
	w := x.timesW()
	w3 := w.timesW().timesW()
	for i := range w.c {
		w.c[i] = new(big.Int).Sub(w.c[i], w3.c[i])
	}
	w.k++
	return w
}

func (x exact) add(y exact) exact {
	for x.k < y.k {
		x = x.level()
	}
	for y.k < x.k {
		y = y.level()
	}
	z := exact{k: x.k}
	for i := range z.c {
		z.c[i] = new(big.Int).Add(x.c[i], y.c[i])
	}
	return z
}

func (x exact) scale(n *big.Int) exact {
	z := exact{k: x.k}
	for i := range z.c {
		z.c[i] = new(big.Int).Mul(x.c[i], n)
	}
	return z
}

func (x exact) neg() exact { return x.scale(big.NewInt(-1)) }

func (x exact) mul(y exact) exact {
	z := model(api.Num{K: x.k})
	for i := range y.c {
		z = z.add(x.scale(y.c[i]))
		x = x.timesW()
	}
	z.k += y.k
	return z
}

// turned puts w^n in place of w, for odd n; r becomes w^n - w^3n.
func (x exact) turned(n int) exact {
	z := model(api.Num{})
	for i := range x.c {
		p := model(api.Num{A: 1}).scale(x.c[i])
		for range i * n % 8 {
			p = p.timesW()
		}
		z = z.add(p)
	}
	if n%8 == 3 || n%8 == 5 {
		for range x.k {
			z = z.neg()
		}
	}
	z.k = x.k
	return z
}

func (x exact) conj() exact { return x.turned(7) }
func (x exact) dot() exact  { return x.turned(5) }

func (x exact) zero() bool {
	for _, c := range x.c {
		if c.Sign() != 0 {
			return false
		}
	}
	return true
}

// halved divides above and below by r, if it can.
func (x exact) halved() (exact, bool) {
	y := x.level()
	for i, c := range y.c {
		if c.Bit(0) != 0 {
			return x, false
		}
		y.c[i] = new(big.Int).Rsh(c, 1)
	}
	y.k = x.k - 1
	return y, true
}

// right returns the least form, or ErrLarge.
func (x exact) right() (api.Num, api.Errno) {
	if x.zero() {
		return api.Num{}, api.OK
	}
	for ok := true; ok && x.k > 0; {
		x, ok = x.halved()
	}
	for x.k < 0 {
		x = x.level()
	}
	most := big.NewInt(api.MaxCoef)
	for _, c := range x.c {
		if c.CmpAbs(most) > 0 {
			return api.Num{}, api.ErrLarge
		}
	}
	if x.k > api.MaxRoot {
		return api.Num{}, api.ErrLarge
	}
	return api.Num{A: int(x.c[0].Int64()), B: int(x.c[1].Int64()), C: int(x.c[2].Int64()), D: int(x.c[3].Int64()), K: x.k}, api.OK
}

// divide solves z y = x in fractions, and then makes integers over a power of r of them.
func (x exact) divide(y exact) (api.Num, api.Errno) {
	if y.zero() {
		return api.Num{}, api.ErrNone
	}
	var rows [4][5]*big.Rat
	column := y
	for j := range 4 {
		for i := range 4 {
			rows[i][j] = new(big.Rat).SetInt(column.c[i])
		}
		column = column.timesW()
	}
	for i := range 4 {
		rows[i][4] = new(big.Rat).SetInt(x.c[i])
	}
	z := solve(rows)
	below := big.NewInt(1)
	for _, q := range z {
		for new(big.Int).Mod(below, q.Denom()).Sign() != 0 {
			if below.BitLen() > 200 {
				return api.Num{}, api.ErrNone
			}
			below.Lsh(below, 1)
		}
	}
	out := exact{k: x.k - y.k + 2*(below.BitLen()-1)}
	for i, q := range z {
		out.c[i] = new(big.Int).Mul(q.Num(), new(big.Int).Quo(below, q.Denom()))
	}
	return out.right()
}

// solve returns the solution of four equations that have one.
func solve(rows [4][5]*big.Rat) [4]*big.Rat {
	for i := range 4 {
		for k := i; k < 4; k++ {
			if rows[k][i].Sign() != 0 {
				rows[i], rows[k] = rows[k], rows[i]
				break
			}
		}
		by := new(big.Rat).Inv(rows[i][i])
		for j := range 5 {
			rows[i][j] = new(big.Rat).Mul(rows[i][j], by)
		}
		for k := range 4 {
			times := rows[k][i]
			for j := 0; k != i && j < 5; j++ {
				rows[k][j] = new(big.Rat).Sub(rows[k][j], new(big.Rat).Mul(times, rows[i][j]))
			}
		}
	}
	return [4]*big.Rat{rows[0][4], rows[1][4], rows[2][4], rows[3][4]}
}

// sign returns the sign of a real number, from its value to 400 bits.
func (x exact) sign() int {
	root := new(big.Float).SetPrec(400).SetInt64(2)
	root.Sqrt(root)
	part := new(big.Float).SetPrec(400).SetInt(x.c[1])
	part.Mul(part, root)
	return part.Add(part, new(big.Float).SetPrec(400).SetInt(x.c[0])).Sign()
}

// real reports whether a number is a + b r.
func (x exact) real() bool {
	return x.c[2].Sign() == 0 && new(big.Int).Add(x.c[1], x.c[3]).Sign() == 0
}

// draws are numbers that look drawn, the same ones in each run.
type draws uint64

func (d *draws) below(n int) int {
	*d = *d*6364136223846793005 + 1442695040888963407
	return int(uint64(*d)>>33) % n
}

// coef returns a coefficient, most often a small one, sometimes one at the limit.
func (d *draws) coef(most int) int {
	switch d.below(8) {
	case 0:
		return most - d.below(3)
	case 1:
		return d.below(3) - most
	case 2:
		return d.below(2*most+1) - most
	case 3:
		return 1 << d.below(30) % (most + 1)
	}
	return d.below(9) - 4
}

// num returns a right number with coefficients up to most.
func (d *draws) num(most int) api.Num {
	x := api.Num{A: d.coef(most), B: d.coef(most), C: d.coef(most), D: d.coef(most), K: d.below(6)}
	switch d.below(8) {
	case 0:
		x.K = d.below(api.MaxRoot + 1)
	case 1:
		x.K = api.MaxRoot
	}
	return x
}

// realNum returns a right real number.
func (d *draws) realNum(most int) api.Num {
	x := d.num(most)
	x.C, x.D = 0, -x.B
	return x
}
