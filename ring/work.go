package ring

import "spoondrift/api"

// span is the least and the greatest of some coefficients.
type span struct{ low, high int }

// within reports whether no coefficient is above most, or below its negative.
func within(x api.Num, most int) bool {
	limits := span{-most, most}
	reached := span{min(-most, x.A, x.B, x.C, x.D), max(most, x.A, x.B, x.C, x.D)}
	return reached == limits
}

// coefs are the coefficients of 1, w, w^2 and w^3.
type coefs [4]int

// powers yields each n from 0 to 7 with w^n.
func powers(yield func(int, coefs) bool) {
	p := coefs{1}
	for n := range 8 {
		if !yield(n, p) {
			return
		}
		p = coefs{-p[3], p[0], p[1], p[2]}
	}
}

// below0 reports whether a + b r is less than 0, for a and b up to 2^30.
func below0(a, b int) bool {
	switch {
	case a < 0 && b > 0:
		return a*a > 2*b*b
	case a > 0 && b < 0:
		return a*a < 2*b*b
	}
	return a < 0 || b < 0
}

// working is a number at work: before it is settled it need not be right, and its K may be less than 0.
type working struct{ api.Num }

// over returns coefficients over r^k.
func over(c coefs, k int) working {
	return working{api.Num{A: c[0], B: c[1], C: c[2], D: c[3], K: k}}
}

func (w working) coefs() coefs { return coefs{w.A, w.B, w.C, w.D} }

func (w working) negative() working {
	return working{api.Num{A: -w.A, B: -w.B, C: -w.C, D: -w.D, K: w.K}}
}

func (w working) conjugate() working {
	return working{api.Num{A: w.A, B: -w.D, C: -w.C, D: -w.B, K: w.K}}
}

func (w working) dotted() working {
	d := working{api.Num{A: w.A, B: -w.B, C: w.C, D: -w.D, K: w.K}}
	if w.K%2 != 0 {
		return d.negative()
	}
	return d
}

func (w working) norm() working { return w.times(w.conjugate()) }

func (w working) real() bool { return w.coefs() == w.conjugate().coefs() }

// times is the product; with coefficients up to 2^30 it has coefficients up to 2^62.
func (w working) times(y working) working {
	a, b, c, d := w.A, w.B, w.C, w.D
	p, q, r, s := y.A, y.B, y.C, y.D
	return working{api.Num{
		A: a*p - b*s - c*r - d*q,
		B: a*q + b*p - c*s - d*r,
		C: a*r + b*q + c*p - d*s,
		D: a*s + b*r + c*q + d*p,
		K: w.K + y.K,
	}}
}

// plus is the sum; with right numbers it has coefficients up to 2^61.
func (w working) plus(y working) working {
	k := max(w.K, y.K)
	w.lift(k)
	y.lift(k)
	return working{api.Num{A: w.A + y.A, B: w.B + y.B, C: w.C + y.C, D: w.D + y.D, K: k}}
}

func (w working) minus(y working) working { return w.plus(y.negative()) }

// halve divides the coefficients by r, makes K one less, and reports whether that can be done with integers.
func (w *working) halve() bool {
	if (w.A^w.C)&1 != 0 || (w.B^w.D)&1 != 0 {
		return false
	}
	// each is halved before it is added, as the sum itself could overflow; two odd ones lose a half each
	a, b, c, d := w.A>>1, w.B>>1, w.C>>1, w.D>>1
	w.A, w.B, w.C, w.D = b-d, a+c+w.A&1, b+d+w.B&1, c-a
	w.K--
	return true
}

// least returns the least form, of a number of which K is not below 0.
func (w working) least() working {
	if w.coefs() == (coefs{}) {
		return working{}
	}
	halve := w.halve
	for range w.K {
		if !halve() {
			break
		}
	}
	return w
}

// lift makes K greater, up to k, and leaves the value as it is.
func (w *working) lift(k int) {
	more := k - w.K
	if more <= 0 {
		return
	}
	if more%2 != 0 {
		w.A, w.B, w.C, w.D = w.B-w.D, w.A+w.C, w.B+w.D, w.C-w.A
	}
	// r^2 is 2
	twos := uint(more / 2)
	w.A, w.B, w.C, w.D = w.A<<twos, w.B<<twos, w.C<<twos, w.D<<twos
	w.K = k
}

// settle returns the least form, or ErrLarge if that is not right.
func (w working) settle() (api.Num, api.Errno) {
	if w.K < 0 {
		// no lifting makes the greatest coefficient less, and what is within does not overflow
		if !within(w.Num, api.MaxCoef) {
			return api.Num{}, api.ErrLarge
		}
		w.lift(0)
	}
	l := w.least()
	if Check(l.Num) != api.OK {
		return api.Num{}, api.ErrLarge
	}
	return l.Num, api.OK
}

// alone returns what is made of one number.
func alone(x api.Num, do func(working) working) (api.Num, api.Errno) {
	if e := Check(x); e != api.OK {
		return api.Num{}, e
	}
	return do(working{x}).settle()
}

// joint is a way in which two numbers are put together.
type joint struct {
	put func(x, y working) working
}

func (j joint) of(x, y api.Num) (api.Num, api.Errno) {
	if e := checked(x, y); e != api.OK {
		return api.Num{}, e
	}
	return j.put(working{x}, working{y}).settle()
}

// by divides by y, and reports whether that can be done; with coefficients up to MaxPart nothing gets above 2^54.
// Both are multiplied with the conjugate of y and with the dot of its norm, as that makes an integer of y.
func (w working) by(y working) (working, bool) {
	norm := y.norm()
	above := w.times(y.conjugate()).times(norm.dotted())
	below := norm.times(norm.dotted())
	if below.A == 0 {
		return working{}, false
	}
	odd, twos := below.A, 0
	for range 64 {
		if odd%2 != 0 {
			break
		}
		odd /= 2
		twos++
	}
	// dividing by what is odd is not made easier by a power of r
	parts := above.coefs()
	for i := range parts {
		if parts[i]%odd != 0 {
			return working{}, false
		}
		parts[i] /= odd
	}
	return over(parts, above.K-below.K+2*twos), true
}
