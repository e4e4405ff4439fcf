package ring_test

import (
	"math"
	"regexp"
	"slices"
	"strconv"
	"strings"
	"testing"

	"spoondrift/api"
	"spoondrift/ring"
)

const most = api.MaxCoef

// num is a number.
func num(a, b, c, d, k int) api.Num { return api.Num{A: a, B: b, C: c, D: d, K: k} }

type (
	one func(api.Num) (api.Num, api.Errno)
	two func(x, y api.Num) (api.Num, api.Errno)
)

var ones = map[string]one{"Least": ring.Least, "Neg": ring.Neg, "Conj": ring.Conj, "Dot": ring.Dot, "Norm": ring.Norm}

var twos = map[string]two{"Add": ring.Add, "Sub": ring.Sub, "Mul": ring.Mul, "Divide": ring.Divide}

// P1.1

func TestCheckLimits(t *testing.T) {
	for _, c := range []struct {
		x api.Num
		e api.Errno
	}{
		{num(0, 0, 0, 0, 0), api.OK},
		{num(most, -most, most, -most, 60), api.OK},
		{num(-most, most, -most, most, 0), api.OK},
		{num(1, 0, 0, 0, 61), api.ErrRange},
		{num(1, 0, 0, 0, -1), api.ErrRange},
		{num(1, 0, 0, 0, math.MaxInt), api.ErrRange},
		{num(1, 0, 0, 0, math.MinInt), api.ErrRange},
		{num(most+1, 0, 0, 0, 0), api.ErrLarge},
		{num(0, most+1, 0, 0, 0), api.ErrLarge},
		{num(0, 0, most+1, 0, 60), api.ErrLarge},
		{num(0, 0, 0, most+1, 0), api.ErrLarge},
		{num(-most-1, 0, 0, 0, 0), api.ErrLarge},
		{num(0, -most-1, 0, 0, 0), api.ErrLarge},
		{num(0, 0, -most-1, 0, 0), api.ErrLarge},
		{num(0, 0, 0, -most-1, 60), api.ErrLarge},
		{num(math.MinInt, 0, 0, 0, 0), api.ErrLarge},
		{num(0, 0, 0, math.MaxInt, 0), api.ErrLarge},
		{num(most+1, 0, 0, 0, 61), api.ErrRange},
		{num(math.MinInt, 0, 0, 0, -1), api.ErrRange},
	} {
		if e := ring.Check(c.x); e != c.e {
			t.Error(c.x, e)
		}
	}
}

func TestLeast(t *testing.T) {
	for _, c := range []struct{ x, want api.Num }{
		{num(2, 0, 0, 0, 2), num(1, 0, 0, 0, 0)},
		{num(1, 0, 1, 0, 1), num(0, 1, 0, 0, 0)},
		{num(1, 0, 0, 0, 1), num(1, 0, 0, 0, 1)},
		{num(0, 0, 0, 0, 60), num(0, 0, 0, 0, 0)},
		{num(most, 0, 0, 0, 60), num(1, 0, 0, 0, 0)},
		{num(most, most, most, most, 60), num(1, 1, 1, 1, 0)},
		{num(1, 3, -1, 5, 3), num(-1, 0, 4, -1, 2)},
		{num(2, 4, 6, 8, 0), num(2, 4, 6, 8, 0)},
	} {
		if y, e := ring.Least(c.x); y != c.want || e != api.OK {
			t.Error(c.x, y, e)
		}
	}
	d := draws(1)
	for range 5000 {
		x := d.num(most)
		want, _ := model(x).right()
		y, e := ring.Least(x)
		if y != want || e != api.OK {
			t.Fatal(x, y, e, want)
		}
		if y.K != 0 && (y.A-y.C)%2 == 0 && (y.B-y.D)%2 == 0 {
			t.Fatal(x, y)
		}
		if z, e := ring.Least(y); z != y || e != api.OK {
			t.Fatal(x, y, z, e)
		}
	}
}

func TestSame(t *testing.T) {
	d := draws(2)
	for range 5000 {
		x := d.num(64)
		y := d.num(64)
		if d.below(2) == 0 {
			// the same value over more powers of r
			m := model(x)
			for range d.below(5) {
				m = m.level()
			}
			y = num(int(m.c[0].Int64()), int(m.c[1].Int64()), int(m.c[2].Int64()), int(m.c[3].Int64()), min(m.k, 60))
		}
		want := model(x).add(model(y).neg()).zero()
		if is, e := ring.Same(x, y); is != want || e != api.OK {
			t.Fatal(x, y, is, e)
		}
	}
	for _, c := range []struct {
		x, y api.Num
		is   bool
		e    api.Errno
	}{
		{num(2, 0, 0, 0, 2), num(1, 0, 0, 0, 0), true, api.OK},
		{num(0, 0, 0, 0, 7), num(0, 0, 0, 0, 0), true, api.OK},
		{num(1, 0, 0, 0, 2), num(1, 0, 0, 0, 0), false, api.OK},
		{num(1, 0, 0, 0, 61), num(1, 0, 0, 0, 61), false, api.ErrRange},
		{num(most+1, 0, 0, 0, 0), num(1, 0, 0, 0, 61), false, api.ErrLarge},
		{num(1, 0, 0, 0, 61), num(most+1, 0, 0, 0, 0), false, api.ErrRange},
		{num(1, 0, 0, 0, 0), num(0, most+1, 0, 0, 0), false, api.ErrLarge},
	} {
		if is, e := ring.Same(c.x, c.y); is != c.is || e != c.e {
			t.Error(c.x, c.y, is, e)
		}
	}
}

// P1.2

func TestCalculatingAsTheModel(t *testing.T) {
	models := map[string]func(x, y exact) exact{
		"Add": exact.add, "Mul": exact.mul,
		"Sub":  func(x, y exact) exact { return x.add(y.neg()) },
		"Neg":  func(x, _ exact) exact { return x.neg() },
		"Conj": func(x, _ exact) exact { return x.conj() },
		"Dot":  func(x, _ exact) exact { return x.dot() },
		"Norm": func(x, _ exact) exact { return x.mul(x.conj()) },
	}
	for name, m := range models {
		d := draws(3)
		ended := map[api.Errno]int{}
		for range 4000 {
			bound := []int{8, 1 << 15, most}[d.below(3)]
			x, y := d.num(bound), d.num(bound)
			want, f := m(model(x), model(y)).right()
			var z api.Num
			var e api.Errno
			if twos[name] != nil {
				z, e = twos[name](x, y)
			} else {
				z, e = ones[name](x)
			}
			if z != want || e != f {
				t.Fatal(name, x, y, z, e, want, f)
			}
			ended[e]++
		}
		if ended[api.OK] == 0 || ended[api.ErrLarge] == 0 && twos[name] != nil {
			t.Error(name, ended)
		}
	}
}

func TestCalculatingAtTheLimits(t *testing.T) {
	full := num(most, most, most, most, 60)
	for i, c := range []struct {
		do         two
		x, y, want api.Num
		e          api.Errno
	}{
		{ring.Add, num(most-1, 0, 0, 0, 0), num(1, 0, 0, 0, 0), num(most, 0, 0, 0, 0), api.OK},
		{ring.Add, num(most, 0, 0, 0, 0), num(1, 0, 0, 0, 0), api.Num{}, api.ErrLarge},
		{ring.Sub, num(-most, 0, 0, 0, 0), num(1, 0, 0, 0, 0), api.Num{}, api.ErrLarge},
		{ring.Sub, num(0, 0, 1-most, 0, 0), num(0, 0, 1, 0, 0), num(0, 0, -most, 0, 0), api.OK},
		{ring.Add, num(0, 0, 0, most, 0), num(0, 0, 0, 0, 60), num(0, 0, 0, most, 0), api.OK},
		{ring.Add, full, full, num(2, 2, 2, 2, 0), api.OK},
		{ring.Sub, full, full, api.Num{}, api.OK},
		{ring.Mul, num(1<<15, 0, 0, 0, 0), num(1<<15, 0, 0, 0, 0), num(most, 0, 0, 0, 0), api.OK},
		{ring.Mul, num(1<<15, 0, 0, 0, 0), num(1<<15+1, 0, 0, 0, 0), api.Num{}, api.ErrLarge},
		{ring.Mul, num(1, 0, 0, 0, 30), num(1, 0, 0, 0, 30), num(1, 0, 0, 0, 60), api.OK},
		{ring.Mul, num(1, 0, 0, 0, 30), num(1, 0, 0, 0, 31), api.Num{}, api.ErrLarge},
		{ring.Mul, full, full, num(-2, 0, 2, 4, 0), api.OK},
		{ring.Mul, num(most, -most, -most, -most, 60), num(most, most, most, most, 60), num(4, 2, 0, -2, 0), api.OK},
		{ring.Mul, num(most, 0, 0, 0, 0), num(1, 0, 0, 0, 60), num(1, 0, 0, 0, 0), api.OK},
	} {
		if z, e := c.do(c.x, c.y); z != c.want || e != c.e {
			t.Error(i, z, e)
		}
	}
	if x, e := ring.Norm(num(1, 0, 0, 0, 30)); x != num(1, 0, 0, 0, 60) || e != api.OK {
		t.Error(x, e)
	}
	if x, e := ring.Norm(num(1, 0, 0, 0, 31)); x != (api.Num{}) || e != api.ErrLarge {
		t.Error(x, e)
	}
}

func TestErrorsOfCheckComeFirst(t *testing.T) {
	right, far, large := num(1, 2, 3, 4, 5), num(1, 0, 0, 0, 61), num(0, -most-1, 0, 0, 0)
	for name, do := range ones {
		for x, want := range map[api.Num]api.Errno{far: api.ErrRange, large: api.ErrLarge, num(most+1, 0, 0, 0, -1): api.ErrRange} {
			if z, e := do(x); z != (api.Num{}) || e != want {
				t.Error(name, x, z, e)
			}
		}
	}
	for name, do := range twos {
		for _, c := range []struct {
			x, y api.Num
			e    api.Errno
		}{{far, right, api.ErrRange}, {large, right, api.ErrLarge}, {right, far, api.ErrRange}, {right, large, api.ErrLarge}, {far, large, api.ErrRange}, {large, far, api.ErrLarge}} {
			if z, e := do(c.x, c.y); z != (api.Num{}) || e != c.e {
				t.Error(name, c.x, c.y, z, e)
			}
			if is, e := ring.Less(c.x, c.y); is || e != c.e {
				t.Error(c.x, c.y, is, e)
			}
			if n, e := ring.Phase(c.x, c.y); n != 0 || e != c.e {
				t.Error(c.x, c.y, n, e)
			}
			if z, e := ring.Sum([]api.Num{right, c.x, c.y}); z != (api.Num{}) || e != c.e {
				t.Error(c.x, c.y, z, e)
			}
		}
	}
	for x, want := range map[api.Num]api.Errno{far: api.ErrRange, large: api.ErrLarge} {
		if z, e := ring.Power(x, -1); z != (api.Num{}) || e != want {
			t.Error(x, z, e)
		}
		if is, e := ring.Real(x); is || e != want {
			t.Error(x, is, e)
		}
		if s, e := ring.Print(x); s != "" || e != want {
			t.Error(x, s, e)
		}
	}
}

func TestOmega(t *testing.T) {
	for n, want := range []api.Num{num(1, 0, 0, 0, 0), num(0, 1, 0, 0, 0), num(0, 0, 1, 0, 0), num(0, 0, 0, 1, 0), num(-1, 0, 0, 0, 0), num(0, -1, 0, 0, 0), num(0, 0, -1, 0, 0), num(0, 0, 0, -1, 0)} {
		for _, m := range []int{n, n + 8, n - 8, n - 800, n + 1<<40, math.MinInt + n, math.MaxInt - 7 + n} {
			if x := ring.Omega(m); x != want {
				t.Error(m, x)
			}
		}
	}
}

func TestRoot(t *testing.T) {
	for k := range 61 {
		x, e := ring.Root(k)
		if x != num(1, 0, 0, 0, k) || e != api.OK {
			t.Error(k, x, e)
		}
	}
	for _, k := range []int{-1, 61, math.MinInt, math.MaxInt} {
		if x, e := ring.Root(k); x != (api.Num{}) || e != api.ErrRange {
			t.Error(k, x, e)
		}
	}
}

func TestPower(t *testing.T) {
	for i, c := range []struct {
		x    api.Num
		n    int
		want api.Num
		e    api.Errno
	}{
		{num(0, 0, 0, 0, 0), 0, num(1, 0, 0, 0, 0), api.OK},
		{num(most, 0, 0, 0, 0), 0, num(1, 0, 0, 0, 0), api.OK},
		{num(most, most, most, most, 1), 1, num(0, most, most, 0, 0), api.OK},
		{num(0, 0, 0, 0, 9), 64, api.Num{}, api.OK},
		{num(0, 1, 0, 0, 0), 64, num(1, 0, 0, 0, 0), api.OK},
		{num(0, 1, 0, 0, 0), 63, num(0, 0, 0, -1, 0), api.OK},
		{num(0, 1, 0, 0, 0), 65, api.Num{}, api.ErrRange},
		{num(0, 1, 0, 0, 0), -1, api.Num{}, api.ErrRange},
		{num(most, 0, 0, 0, 0), math.MinInt, api.Num{}, api.ErrRange},
		{num(most, 0, 0, 0, 0), math.MaxInt, api.Num{}, api.ErrRange},
		{num(0, 1, 0, -1, 0), 60, num(most, 0, 0, 0, 0), api.OK},
		{num(0, 1, 0, -1, 0), 61, num(0, most, 0, -most, 0), api.OK},
		{num(0, 1, 0, -1, 0), 62, api.Num{}, api.ErrLarge},
		{num(1, 0, 0, 0, 1), 60, num(1, 0, 0, 0, 60), api.OK},
		{num(1, 0, 0, 0, 1), 61, api.Num{}, api.ErrLarge},
		{num(most, 0, 0, 0, 0), 2, api.Num{}, api.ErrLarge},
	} {
		if z, e := ring.Power(c.x, c.n); z != c.want || e != c.e {
			t.Error(i, z, e)
		}
	}
	// 3 + 2r and 3 - 2r undo one another
	up, e := ring.Power(num(3, 2, 0, -2, 0), 11)
	down, f := ring.Power(num(3, -2, 0, 2, 0), 11)
	if z, g := ring.Mul(up, down); z != num(1, 0, 0, 0, 0) || e != api.OK || f != api.OK || g != api.OK {
		t.Error(up, down, z)
	}
	d := draws(4)
	for range 1000 {
		x := d.num(5)
		n := d.below(65)
		want, f := num(1, 0, 0, 0, 0), api.OK
		for range n {
			if f == api.OK {
				want, f = model(want).mul(model(x)).right()
			}
		}
		if z, e := ring.Power(x, n); z != want || e != f {
			t.Fatal(x, n, z, e, want, f)
		}
	}
}

func TestSum(t *testing.T) {
	large := num(most, 0, 0, 0, 0)
	for i, c := range []struct {
		l    []api.Num
		want api.Num
		e    api.Errno
	}{
		{nil, api.Num{}, api.OK},
		{[]api.Num{}, api.Num{}, api.OK},
		{[]api.Num{num(2, 0, 0, 0, 2)}, num(1, 0, 0, 0, 0), api.OK},
		{[]api.Num{num(1, 0, 0, 0, 1), num(1, 0, 0, 0, 1), num(0, 0, 0, 1, 0)}, num(0, 1, 0, 0, 0), api.OK},
		{[]api.Num{large, num(-1, 0, 0, 0, 0), num(1, 0, 0, 0, 0)}, large, api.OK},
		{[]api.Num{large, num(1, 0, 0, 0, 0), num(-1, 0, 0, 0, 0)}, api.Num{}, api.ErrLarge},
		{[]api.Num{large, large, num(0, 0, 0, 0, 61)}, api.Num{}, api.ErrRange},
		{[]api.Num{num(most+1, 0, 0, 0, 0), num(0, 0, 0, 0, 61)}, api.Num{}, api.ErrLarge},
		{[]api.Num{num(0, 0, 0, 0, -1), num(most+1, 0, 0, 0, 0)}, api.Num{}, api.ErrRange},
	} {
		kept := slices.Clone(c.l)
		if z, e := ring.Sum(c.l); z != c.want || e != c.e {
			t.Error(i, z, e)
		}
		if !slices.Equal(c.l, kept) {
			t.Error(i, c.l, kept)
		}
	}
}

// P1.3

func TestDivide(t *testing.T) {
	for i, c := range []struct {
		x, y, want api.Num
		e          api.Errno
	}{
		{num(1, 0, 0, 0, 0), num(1, 1, 0, 0, 0), num(0, 1, -1, 0, 1), api.OK},
		{num(1, 0, 0, 0, 0), num(3, 0, 0, 0, 0), api.Num{}, api.ErrNone},
		{num(0, 0, 0, 0, 3), num(3, 0, 0, 0, 0), api.Num{}, api.OK},
		{num(0, 0, 0, 0, 0), num(0, 0, 0, 0, 5), api.Num{}, api.ErrNone},
		{num(1, 0, 0, 0, 0), num(0, 0, 0, 0, 0), api.Num{}, api.ErrNone},
		{num(0, 0, 0, 0, 0), num(1, 0, 0, 0, 60), api.Num{}, api.OK},
		{num(4096, -4096, 4096, -4096, 0), num(0, 4096, 0, 0, 0), num(-1, 1, -1, -1, 0), api.OK},
		{num(4097, 0, 0, 0, 0), num(0, 0, 0, 0, 0), api.Num{}, api.ErrLarge},
		{num(0, 0, 0, -4097, 0), num(1, 0, 0, 0, 0), api.Num{}, api.ErrLarge},
		{num(1, 0, 0, 0, 0), num(0, 0, 4097, 0, 0), api.Num{}, api.ErrLarge},
		{num(1, 0, 0, 0, 0), num(0, -4097, 0, 0, 60), api.Num{}, api.ErrLarge},
		{num(8192, 0, 0, 0, 2), num(16384, 0, 0, 0, 4), num(1, 0, 0, 0, 0), api.OK},
		{num(8194, 0, 0, 0, 2), num(0, 0, 0, 0, 0), api.Num{}, api.ErrLarge},
		{num(1, 0, 0, 0, 0), num(1, 0, 0, 0, 60), num(most, 0, 0, 0, 0), api.OK},
		{num(3, 0, 0, 0, 0), num(1, 0, 0, 0, 58), api.Num{}, api.ErrLarge},
		{num(3, 0, 0, 0, 0), num(1, 0, 0, 0, 56), num(3<<28, 0, 0, 0, 0), api.OK},
		{num(4096, 4096, 4096, 4095, 0), num(1, 0, 0, 0, 60), api.Num{}, api.ErrLarge},
		{num(1, 0, 0, 0, 60), num(0, 1, 0, -1, 0), api.Num{}, api.ErrLarge},
		{num(1, 0, 0, 0, 59), num(0, 1, 0, -1, 0), num(1, 0, 0, 0, 60), api.OK},
		{num(7, 0, 0, 0, 0), num(3, 1, 0, -1, 0), num(3, -1, 0, 1, 0), api.OK},
	} {
		if z, e := ring.Divide(c.x, c.y); z != c.want || e != c.e {
			t.Error(i, z, e)
		}
	}
}

func TestDivideAsTheModel(t *testing.T) {
	d := draws(5)
	ended := map[api.Errno]int{}
	for range 6000 {
		bound := []int{3, 60, ring.MaxPart}[d.below(3)]
		y, e := ring.Least(d.num(bound))
		x, f := ring.Least(d.num(bound))
		if d.below(2) == 0 {
			// most often something that can be divided
			x, f = ring.Mul(y, d.num(3))
		}
		if e != api.OK || f != api.OK {
			continue
		}
		want, f := model(x).divide(model(y))
		if max(x.A, x.B, x.C, x.D) > ring.MaxPart || min(x.A, x.B, x.C, x.D) < -ring.MaxPart {
			want, f = api.Num{}, api.ErrLarge
		}
		z, e := ring.Divide(x, y)
		if z != want || e != f {
			t.Fatal(x, y, z, e, want, f)
		}
		ended[e]++
	}
	if ended[api.OK] < 500 || ended[api.ErrNone] < 500 || ended[api.ErrLarge] < 50 {
		t.Error(ended)
	}
}

func TestReal(t *testing.T) {
	for x, want := range map[api.Num]bool{
		num(0, 0, 0, 0, 3): true, num(-most, most, 0, -most, 60): true, num(1, 0, 1, 0, 1): false, num(1, 0, -1, 0, 1): false,
		num(0, 1, 0, 0, 0): false, num(0, 1, 0, 1, 0): false, num(0, 0, 1, 0, 0): false, num(0, 1, 0, -1, 1): true, num(5, 0, 0, 0, 1): true,
	} {
		if is, e := ring.Real(x); is != want || e != api.OK {
			t.Error(x, is, e)
		}
	}
	d := draws(6)
	for range 2000 {
		x := d.num(2)
		if is, e := ring.Real(x); is != model(x).real() || e != api.OK {
			t.Fatal(x, is, e)
		}
	}
}

func TestLess(t *testing.T) {
	i := num(0, 0, 1, 0, 0)
	for n, c := range []struct {
		x, y api.Num
		is   bool
		e    api.Errno
	}{
		{num(2, -1, 0, 1, 0), num(1, 0, 0, 0, 0), true, api.OK},
		{num(2, -1, 0, 1, 0), num(1, 0, 0, 0, 2), false, api.OK},
		{num(2, 0, 0, 0, 2), num(1, 0, 0, 0, 0), false, api.OK},
		{num(1, 0, 0, 0, 1), num(1, 0, 0, 0, 0), true, api.OK},
		{num(0, 0, 0, 0, 0), num(0, 0, 0, 0, 4), false, api.OK},
		// 665857/470832 is a little more than r, 1311738121/927538920 too; 1607521/1136689 a little less
		{num(0, 470832, 0, -470832, 0), num(665857, 0, 0, 0, 0), true, api.OK},
		{num(665857, 0, 0, 0, 0), num(0, 470832, 0, -470832, 0), false, api.OK},
		{num(1607521, 0, 0, 0, 0), num(0, 1136689, 0, -1136689, 0), true, api.OK},
		{num(0, 1136689, 0, -1136689, 0), num(1607521, 0, 0, 0, 0), false, api.OK},
		{i, num(1, 0, 0, 0, 0), false, api.ErrClash},
		{num(1, 0, 0, 0, 0), i, false, api.ErrClash},
		{num(most, 0, 1, 0, 0), num(-most, 0, 0, 0, 0), false, api.ErrClash},
		{num(most, 0, 0, 0, 0), num(-1, 0, 0, 0, 0), false, api.ErrLarge},
		{num(-most, 0, 0, 0, 0), num(1, 0, 0, 0, 0), false, api.ErrLarge},
		{num(-most, 0, 0, 0, 0), num(0, 0, 0, 0, 0), true, api.OK},
		{num(1, 0, 0, 0, 60), num(most, 0, 0, 0, 0), false, api.ErrLarge},
	} {
		if is, e := ring.Less(c.x, c.y); is != c.is || e != c.e {
			t.Error(n, is, e)
		}
	}
	d := draws(7)
	for range 5000 {
		bound := []int{4, 1000, most}[d.below(3)]
		x, y := d.realNum(bound), d.realNum(bound)
		diff := model(x).add(model(y).neg())
		_, want := diff.right()
		is, e := ring.Less(x, y)
		if e != want || is != (want == api.OK && diff.sign() < 0) {
			t.Fatal(x, y, is, e)
		}
	}
}

func TestPhase(t *testing.T) {
	for i, c := range []struct {
		x, y api.Num
		n    int
		e    api.Errno
	}{
		{num(0, 0, 1, 0, 0), num(0, -1, 0, 0, 0), 5, api.OK},
		{num(1, 0, 0, 0, 0), num(2, 0, 0, 0, 0), 0, api.ErrNone},
		{num(0, 0, 0, 0, 0), num(0, 0, 0, 0, 8), 0, api.OK},
		{num(0, 0, 0, 0, 0), num(1, 0, 0, 0, 0), 0, api.ErrNone},
		{num(1, 0, 0, 0, 0), num(0, 0, 0, 0, 0), 0, api.ErrNone},
		{num(1, 0, 0, 0, 0), num(1, 0, 0, 0, 1), 0, api.ErrNone},
		{num(1, 2, 3, 5, 1), num(1, 2, 3, 5, 2), 0, api.ErrNone},
		{num(1, 0, 1, 0, 1), num(2, 0, 0, 0, 2), 1, api.OK},
	} {
		if n, e := ring.Phase(c.x, c.y); n != c.n || e != c.e {
			t.Error(i, n, e)
		}
	}
	d := draws(8)
	for range 2000 {
		y := d.num(most)
		n := d.below(8)
		x, e := ring.Mul(ring.Omega(n), y)
		if e != api.OK {
			t.Fatal(y, e)
		}
		if x == (api.Num{}) {
			n = 0
		}
		if m, e := ring.Phase(x, y); m != n || e != api.OK {
			t.Fatal(x, y, n, m, e)
		}
	}
}

// P1.4

func TestTexts(t *testing.T) {
	for _, c := range []struct {
		x    api.Num
		text string
	}{
		{num(0, 0, 0, 0, 60), "0"},
		{num(2, 0, 0, 0, 2), "1"},
		{num(-1, 0, 0, 0, 0), "-1"},
		{num(0, -1, 0, 0, 0), "-w"},
		{num(0, 1, -2, -1, 0), "w-2w2-w3"},
		{num(1, 1, 1, 1, 0), "1+w+w2+w3"},
		{num(-1, -1, -1, -1, 0), "-1-w-w2-w3"},
		{num(1, 0, 0, 0, 1), "(1)/r1"},
		{num(0, 0, 0, -1, 60), "(-w3)/r60"},
		{num(10, 0, -11, 101, 2), "(10-11w2+101w3)/r2"},
		{num(most, most, -most, -most, 0), "1073741824+1073741824w-1073741824w2-1073741824w3"},
		{num(1-most, 0, 0, most, 60), "(-1073741823+1073741824w3)/r60"},
	} {
		if s, e := ring.Print(c.x); s != c.text || e != api.OK {
			t.Error(c.x, s, e)
		}
		least, _ := ring.Least(c.x)
		if x, e := ring.Parse(c.text); x != least || e != api.OK {
			t.Error(c.text, x, e)
		}
	}
	d := draws(9)
	for range 3000 {
		x, _ := ring.Least(d.num(most))
		s, e := ring.Print(x)
		if y, f := ring.Parse(s); y != x || e != api.OK || f != api.OK {
			t.Fatal(x, s, y, e, f)
		}
	}
}

func TestNoTexts(t *testing.T) {
	long := strings.Repeat("9", 100000)
	for _, s := range []string{
		"", "-", "+", "+1", "-0", "00", "01", "-01", "1w", "-1w", "0w", "1+0w", "1+1w", "1-1w3", "w1", "w0", "w4", "w22", "W", "w+1", "w2+w", "w+w", "1+1", "1w2w",
		"1+", "1-", "1+-w", "1--w", "1++w", "w2w3", "ww", " 1", "1 ", "1\n", "1 +w", "1.0", "1e3", "0x1", "1_0", "i", "r", "\xff", "1\xff", "é", "٣",
		"(1)", "(1)/", "(1)/r", "(1)/r0", "(1)/r00", "(1)/r01", "(1)/r-1", "(1)/r+1", "(1)/r61", "(1)/r1 ", "(1)/r1w", "(1)/r1)", "(1)/R1", "(1)r1", "1/r1", "1)/r1", "(1/r1", "((1))/r1", "()/r1", "(0)/r1", "(2)/r1", "(2)/r2", "(1+w2)/r1", "(w+w3)/r2", "(1)/r1/r1", "(1)/r" + long,
		"1073741825", "-1073741825", "1073741825w2", "(1073741825)/r1", "9223372036854775808", "18446744073709551617", "4294967297w", long, "-" + long + "w", strings.Repeat("w+", 50000) + "w", strings.Repeat("(", 100000),
	} {
		if x, e := ring.Parse(s); x != (api.Num{}) || e != api.ErrForm {
			t.Error(s, x, e)
		}
	}
}

var (
	overForm = regexp.MustCompile(`^\((.*)\)/r([1-9][0-9]*)$`)
	termForm = regexp.MustCompile(`^([+-]?)(|[1-9][0-9]*)(|w|w2|w3)$`)
	splits   = regexp.MustCompile(`[+-]?[^+-]*`)
)

// isText reports whether s is the text of a right number, by the words of the chapter.
func isText(s string) bool {
	over := overForm.FindStringSubmatch(s)
	if over == nil {
		_, ok := termsOf(s)
		return ok || s == "0"
	}
	c, ok := termsOf(over[1])
	k, e := strconv.Atoi(over[2])
	return ok && ((c[0]-c[2])%2 != 0 || (c[1]-c[3])%2 != 0) && e == nil && k <= api.MaxRoot
}

// termsOf returns the sizes of the coefficients of one term or more.
func termsOf(s string) (c [4]int, ok bool) {
	last := -1
	for _, term := range splits.FindAllString(s, -1) {
		m := termForm.FindStringSubmatch(term)
		if m == nil || m[2]+m[3] == "" || m[2] == "1" && m[3] != "" || (last < 0) == (m[1] == "+") && m[1] != "-" {
			return c, false
		}
		place := slices.Index([]string{"", "w", "w2", "w3"}, m[3])
		n, e := strconv.Atoi("0" + m[2])
		if place <= last || e != nil || n > most {
			return c, false
		}
		last = place
		c[place] = max(n, 1)
	}
	return c, last >= 0
}

func TestAllShortTexts(t *testing.T) {
	found := 0
	check := func(s string) {
		x, e := ring.Parse(s)
		if (e == api.OK) != isText(s) || e != api.OK && (e != api.ErrForm || x != api.Num{}) {
			t.Error(s, x, e)
		}
		if e == api.OK {
			found++
			if p, f := ring.Print(x); p != s || f != api.OK {
				t.Error(s, x, p, f)
			}
		}
	}
	var grow func(s, letters string, more int)
	grow = func(s, letters string, more int) {
		check(s)
		check("(" + s + ")/r1")
		check("(" + s + ")/r60")
		check("(1)/r" + s)
		for i := range letters {
			if more > 0 {
				grow(s+letters[i:i+1], letters, more-1)
			}
		}
	}
	grow("", "0123w+-()/r ", 4)
	grow("", "12w+-", 6)
	if found < 1000 {
		t.Error(found)
	}
}

// P1.5

// must returns a result that has no error.
func must(t *testing.T) func(api.Num, api.Errno) api.Num {
	return func(x api.Num, e api.Errno) api.Num {
		if e != api.OK {
			t.Helper()
			t.Fatal(x, e)
		}
		return x
	}
}

func TestLaws(t *testing.T) {
	of := must(t)
	d := draws(10)
	for range 4000 {
		x, y, z := d.num(500), d.num(500), d.num(500)
		x.K, y.K, z.K = x.K%16, y.K%16, z.K%16
		xy := of(ring.Mul(x, y))
		for i, c := range [][2]api.Num{
			{of(ring.Add(x, y)), of(ring.Add(y, x))},
			{xy, of(ring.Mul(y, x))},
			{of(ring.Add(of(ring.Add(x, y)), z)), of(ring.Add(x, of(ring.Add(y, z))))},
			{of(ring.Sum([]api.Num{x, y, z})), of(ring.Sum([]api.Num{z, x, y}))},
			{of(ring.Sub(of(ring.Add(x, y)), y)), of(ring.Least(x))},
			{of(ring.Mul(z, of(ring.Add(x, y)))), of(ring.Add(of(ring.Mul(z, x)), of(ring.Mul(z, y))))},
			{of(ring.Sub(x, y)), of(ring.Add(x, of(ring.Neg(y))))},
			{of(ring.Conj(xy)), of(ring.Mul(of(ring.Conj(x)), of(ring.Conj(y))))},
			{of(ring.Conj(of(ring.Add(x, y)))), of(ring.Add(of(ring.Conj(x)), of(ring.Conj(y))))},
			{of(ring.Dot(xy)), of(ring.Mul(of(ring.Dot(x)), of(ring.Dot(y))))},
			{of(ring.Dot(of(ring.Add(x, y)))), of(ring.Add(of(ring.Dot(x)), of(ring.Dot(y))))},
			{of(ring.Conj(of(ring.Conj(x)))), of(ring.Least(x))},
			{of(ring.Dot(of(ring.Dot(x)))), of(ring.Least(x))},
			{of(ring.Neg(of(ring.Neg(x)))), of(ring.Least(x))},
			{of(ring.Norm(x)), of(ring.Mul(x, of(ring.Conj(x))))},
		} {
			if c[0] != c[1] {
				t.Fatal(i, x, y, z, c)
			}
		}
	}
}

func TestProductsInAnyOrder(t *testing.T) {
	of := must(t)
	d := draws(11)
	for range 2000 {
		x, y, z := d.num(30), d.num(30), d.num(30)
		x.K, y.K, z.K = x.K%10, y.K%10, z.K%10
		left, right := of(ring.Mul(of(ring.Mul(x, y)), z)), of(ring.Mul(x, of(ring.Mul(y, z))))
		if left != right {
			t.Fatal(x, y, z, left, right)
		}
	}
}

func TestDividedAndMultiplied(t *testing.T) {
	of := must(t)
	d := draws(12)
	divided := 0
	for range 4000 {
		x, y := d.num(20), d.num(2)
		x.K, y.K = x.K%10, y.K%10
		if z, e := ring.Divide(x, y); e == api.OK {
			divided++
			if back := of(ring.Mul(z, y)); back != of(ring.Least(x)) {
				t.Fatal(x, y, z, back)
			}
		}
		if zero, _ := ring.Same(y, api.Num{}); zero {
			continue
		}
		if back := of(ring.Divide(of(ring.Mul(x, y)), y)); back != of(ring.Least(x)) {
			t.Fatal(x, y, back)
		}
	}
	if divided < 300 {
		t.Error(divided)
	}
}

func TestNorms(t *testing.T) {
	d := draws(13)
	for range 3000 {
		x := d.num(10000)
		n, e := ring.Norm(x)
		if e != api.OK {
			continue
		}
		real, _ := ring.Real(n)
		less, _ := ring.Less(n, api.Num{})
		zero, _ := ring.Same(x, api.Num{})
		if !real || less || zero != (n == api.Num{}) {
			t.Fatal(x, n)
		}
	}
}

func TestLessIsAnOrder(t *testing.T) {
	less := func(x, y api.Num) bool {
		is, e := ring.Less(x, y)
		if e != api.OK {
			t.Fatal(x, y, e)
		}
		return is
	}
	d := draws(14)
	for range 4000 {
		x, y, z := d.realNum(50), d.realNum(50), d.realNum(50)
		x.K, y.K, z.K = x.K%8, y.K%8, z.K%8
		if less(x, y) && less(y, z) && !less(x, z) {
			t.Fatal(x, y, z)
		}
		same, _ := ring.Same(x, y)
		if less(x, x) || less(x, y) && less(y, x) || same == (less(x, y) || less(y, x)) {
			t.Fatal(x, y)
		}
	}
}

func TestOneTextForEachValue(t *testing.T) {
	values := map[string]api.Num{}
	d := draws(15)
	for range 20000 {
		x := d.num(3)
		s, e := ring.Print(x)
		least, f := ring.Least(x)
		if before, ok := values[s]; ok && before != least || e != api.OK || f != api.OK {
			t.Fatal(x, s, before, least)
		}
		values[s] = least
	}
	texts := map[api.Num]string{}
	for s, x := range values {
		if texts[x] != "" {
			t.Fatal(x, s, texts[x])
		}
		texts[x] = s
	}
}

// P0.1

func TestAnyArguments(t *testing.T) {
	ints := []int{math.MinInt, math.MinInt + 1, -most - 1, -most, -1, 0, 1, 2, most, most + 1, math.MaxInt}
	roots := []int{math.MinInt, -1, 0, 1, 59, 60, 61, math.MaxInt}
	d := draws(16)
	any := func() api.Num {
		x := api.Num{K: roots[d.below(len(roots))]}
		for _, p := range []*int{&x.A, &x.B, &x.C, &x.D} {
			*p = ints[2+d.below(len(ints)-4)]
			if d.below(6) == 0 {
				*p = ints[d.below(len(ints))]
			}
		}
		return x
	}
	for range 50000 {
		x, y := any(), any()
		for name, do := range twos {
			z, e := do(x, y)
			wellFormed(t, name, z, e)
		}
		for name, do := range ones {
			z, e := do(x)
			wellFormed(t, name, z, e)
		}
		z, e := ring.Power(x, d.below(70)-2)
		wellFormed(t, "Power", z, e)
		z, e = ring.Sum([]api.Num{x, y, x})
		wellFormed(t, "Sum", z, e)
		if is, e := ring.Less(x, y); is && e != api.OK {
			t.Fatal(x, y, is, e)
		}
		if n, e := ring.Phase(x, y); n < 0 || n > 7 || n != 0 && e != api.OK {
			t.Fatal(x, y, n, e)
		}
		if s, e := ring.Print(x); (s == "") != (e != api.OK) || e != ring.Check(x) {
			t.Fatal(x, s, e)
		}
	}
}

// wellFormed checks that a result is in least form, or zero with an error.
func wellFormed(t *testing.T, name string, z api.Num, e api.Errno) {
	t.Helper()
	if e != api.OK && z != (api.Num{}) {
		t.Fatal(name, z, e)
	}
	if l, f := ring.Least(z); l != z || f != api.OK {
		t.Fatal(name, z, e, l, f)
	}
}
