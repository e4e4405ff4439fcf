// Package ring calculates with exact numbers: sums of powers of w, the eighth root of 1, over a power of r, the root of 2.
package ring

import "spoondrift/api"

// MaxPart is the greatest coefficient of what is divided.
const MaxPart = 1 << 12

// MaxPower is the greatest exponent of Power.
const MaxPower = 64

// Check returns ErrRange or ErrLarge if a number is not right.
func Check(x api.Num) api.Errno {
	if x.K < 0 || x.K > api.MaxRoot {
		return api.ErrRange
	}
	if !within(x, api.MaxCoef) {
		return api.ErrLarge
	}
	return api.OK
}

// Least returns the least form of a number.
func Least(x api.Num) (api.Num, api.Errno) {
	if e := Check(x); e != api.OK {
		return api.Num{}, e
	}
	return working{x}.least().Num, api.OK
}

// Same reports whether two numbers have the same value.
func Same(x, y api.Num) (bool, api.Errno) {
	if e := checked(x, y); e != api.OK {
		return false, e
	}
	p, q := working{x}.least(), working{y}.least()
	return p.K == q.K && p.coefs() == q.coefs(), api.OK
}

// Add returns the sum of two numbers.
func Add(x, y api.Num) (api.Num, api.Errno) { return joint{working.plus}.of(x, y) }

// Sub returns the difference of two numbers.
func Sub(x, y api.Num) (api.Num, api.Errno) { return joint{working.minus}.of(x, y) }

// Mul returns the product of two numbers.
func Mul(x, y api.Num) (api.Num, api.Errno) { return joint{working.times}.of(x, y) }

// Neg returns the negative of a number.
func Neg(x api.Num) (api.Num, api.Errno) { return alone(x, working.negative) }

// Conj returns the conjugate of a number.
func Conj(x api.Num) (api.Num, api.Errno) { return alone(x, working.conjugate) }

// Dot returns a number with -w in place of w, and -r in place of r.
func Dot(x api.Num) (api.Num, api.Errno) { return alone(x, working.dotted) }

// Norm returns a number times its conjugate.
func Norm(x api.Num) (api.Num, api.Errno) { return alone(x, working.norm) }

// Omega returns w^n.
func Omega(n int) api.Num {
	// the last three bits are n modulo 8 for n below 0, too
	n &= 7
	for k, p := range powers {
		if k == n {
			return over(p, 0).Num
		}
	}
	return api.Num{}
}

// Root returns 1 / r^k.
func Root(k int) (api.Num, api.Errno) {
	if k < 0 || k > api.MaxRoot {
		return api.Num{}, api.ErrRange
	}
	return api.Num{A: 1, K: k}, api.OK
}

// Power returns x^n, multiplied from the left to the right.
func Power(x api.Num, n int) (api.Num, api.Errno) {
	if e := Check(x); e != api.OK {
		return api.Num{}, e
	}
	if n < 0 || n > MaxPower {
		return api.Num{}, api.ErrRange
	}
	var power func(n int) (api.Num, api.Errno)
	power = func(n int) (api.Num, api.Errno) {
		if n == 0 {
			return Omega(0), api.OK
		}
		before, e := power(n - 1)
		if e != api.OK {
			return api.Num{}, e
		}
		return Mul(before, x)
	}
	return power(n)
}

// Divide returns the z with x = z y.
func Divide(x, y api.Num) (api.Num, api.Errno) {
	if e := checked(x, y); e != api.OK {
		return api.Num{}, e
	}
	p, q := working{x}.least(), working{y}.least()
	if !within(p.Num, MaxPart) || !within(q.Num, MaxPart) {
		return api.Num{}, api.ErrLarge
	}
	z, ok := p.by(q)
	if !ok {
		return api.Num{}, api.ErrNone
	}
	return z.settle()
}

// Real reports whether a number is its own conjugate.
func Real(x api.Num) (bool, api.Errno) {
	if e := Check(x); e != api.OK {
		return false, e
	}
	return working{x}.real(), api.OK
}

// Less reports whether x is less than y, both of which must be real.
func Less(x, y api.Num) (bool, api.Errno) {
	if e := checked(x, y); e != api.OK {
		return false, e
	}
	p, q := working{x}, working{y}
	if !p.real() || !q.real() {
		return false, api.ErrClash
	}
	d, e := Sub(x, y)
	if e != api.OK {
		return false, e
	}
	return below0(d.A, d.B), api.OK
}

// Phase returns the n from 0 to 7 with x = w^n y.
func Phase(x, y api.Num) (int, api.Errno) {
	if e := checked(x, y); e != api.OK {
		return 0, e
	}
	p, q := working{x}.least(), working{y}.least()
	found := map[coefs]int{}
	for n, w := range powers {
		turned := q.times(over(w, 0)).coefs()
		// for y = 0 the first of eight equal ones counts
		if _, ok := found[turned]; !ok {
			found[turned] = n
		}
	}
	// w^n changes no least K, as it has an inverse without r
	n, ok := found[p.coefs()]
	if !ok || p.K != q.K {
		return 0, api.ErrNone
	}
	return n, api.OK
}

// Sum returns the sum of numbers, added from the left to the right.
func Sum(l []api.Num) (api.Num, api.Errno) {
	// a copy, as a variadic call hands on the list itself
	list := make([]api.Num, len(l))
	copy(list, l)
	if e := first(list, Check); e != api.OK {
		return api.Num{}, e
	}
	return total(list...)
}

// total adds right numbers.
func total(l ...api.Num) (api.Num, api.Errno) {
	sum := api.Num{}
	for _, x := range l {
		s, e := Add(sum, x)
		if e != api.OK {
			return api.Num{}, e
		}
		sum = s
	}
	return sum, api.OK
}

// first asks the elements one after the other, and returns the first error.
func first[E any](l []E, ask func(E) api.Errno) api.Errno {
	for _, x := range l {
		if e := ask(x); e != api.OK {
			return e
		}
	}
	return api.OK
}

// checked returns the first error of Check.
func checked(x, y api.Num) api.Errno {
	if e := Check(x); e != api.OK {
		return e
	}
	return Check(y)
}
