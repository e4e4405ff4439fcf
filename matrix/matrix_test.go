package matrix_test

import (
	"math"
	"slices"
	"testing"

	"spoondrift/api"
	"spoondrift/matrix"
	"spoondrift/ring"
)

const most = api.MaxCoef

func num(a, b, c, d, k int) api.Num { return api.Num{A: a, B: b, C: c, D: d, K: k} }

// ints is a row of integers.
func ints(l ...int) []api.Num {
	var row []api.Num
	for _, a := range l {
		row = append(row, api.Num{A: a})
	}
	return row
}

func of(kind int) rows {
	m, _ := matrix.Of(kind)
	return m
}

// call is a function of a matrix, with its other arguments; it tells whether the results are zero, too.
type call func(m rows) (bool, api.Errno)

func isZero(m rows, e api.Errno) (bool, api.Errno) { return len(m) == 0, e }

var (
	tooHigh  = api.Num{K: 61}
	badRows  = rows{{tooHigh}}
	badWires = []int{9, 9}
)

// calls are all functions that have a matrix, with other arguments that would be an error, too, if they have one.
func calls() map[string]call {
	return map[string]call{
		"Check":   func(m rows) (bool, api.Errno) { return true, matrix.Check(m) },
		"Least":   func(m rows) (bool, api.Errno) { return isZero(matrix.Least(m)) },
		"Same":    func(m rows) (bool, api.Errno) { is, e := matrix.Same(m, badRows); return !is, e },
		"Same n":  func(m rows) (bool, api.Errno) { is, e := matrix.Same(rows{{{}}}, m); return !is, e },
		"Phase":   func(m rows) (bool, api.Errno) { k, e := matrix.Phase(m, badRows); return k == 0, e },
		"Phase n": func(m rows) (bool, api.Errno) { k, e := matrix.Phase(rows{{{}}}, m); return k == 0, e },
		"On":      func(m rows) (bool, api.Errno) { return isZero(matrix.On(m, badWires, -1)) },
		"Add":     func(m rows) (bool, api.Errno) { return isZero(matrix.Add(m, badRows)) },
		"Add n":   func(m rows) (bool, api.Errno) { return isZero(matrix.Add(rows{{{}}}, m)) },
		"Mul":     func(m rows) (bool, api.Errno) { return isZero(matrix.Mul(m, badRows)) },
		"Mul n":   func(m rows) (bool, api.Errno) { return isZero(matrix.Mul(rows{{{}}}, m)) },
		"Kron":    func(m rows) (bool, api.Errno) { return isZero(matrix.Kron(m, badRows)) },
		"Kron n":  func(m rows) (bool, api.Errno) { return isZero(matrix.Kron(rows{{{}}}, m)) },
		"Scale":   func(m rows) (bool, api.Errno) { return isZero(matrix.Scale(m, tooHigh)) },
		"Dagger":  func(m rows) (bool, api.Errno) { return isZero(matrix.Dagger(m)) },
		"Trace":   func(m rows) (bool, api.Errno) { x, e := matrix.Trace(m); return x == api.Num{}, e },
		"Unitary": func(m rows) (bool, api.Errno) { is, e := matrix.Unitary(m); return !is, e },
		"Apply":   func(m rows) (bool, api.Errno) { v, e := matrix.Apply(m, nil); return len(v) == 0, e },
	}
}

// zeros is a matrix of 0.
func zeros(high, wide int) rows {
	m := make(rows, high)
	for i := range m {
		m[i] = make([]api.Num, wide)
	}
	return m
}

// P3.1

func TestErrorsOfCheck(t *testing.T) {
	large, low := num(0, 0, most+1, 0, 0), num(0, 0, 0, 0, -1)
	for i, c := range []struct {
		m rows
		e api.Errno
	}{
		{nil, api.ErrMany}, {rows{}, api.ErrMany}, {rows{nil}, api.ErrMany}, {rows{{}}, api.ErrMany}, {rows{{}, {}}, api.ErrMany},
		{rows{ints(1, 0), ints(0)}, api.ErrMany}, {rows{ints(1), ints(0, 1)}, api.ErrMany}, {rows{ints(1), nil}, api.ErrMany}, {rows{nil, ints(1)}, api.ErrMany},
		{zeros(65, 1), api.ErrMany}, {zeros(1, 65), api.ErrMany}, {zeros(64, 65), api.ErrMany}, {zeros(65, 64), api.ErrMany}, {zeros(100000, 0), api.ErrMany}, {zeros(1, 100000), api.ErrMany},
		{rows{{tooHigh}}, api.ErrRange}, {rows{{low}}, api.ErrRange}, {rows{{large}}, api.ErrLarge}, {rows{{num(0, -most-1, 0, 0, 60)}}, api.ErrLarge},
		{rows{{num(most+1, 0, 0, 0, 61)}}, api.ErrRange}, {rows{{num(math.MinInt, 0, 0, 0, 0)}}, api.ErrLarge}, {rows{{num(0, 0, 0, math.MaxInt, 0)}}, api.ErrLarge}, {rows{{num(0, 0, 0, 0, math.MinInt)}}, api.ErrRange},
		// the first number decides, row by row
		{rows{{{}, large}, {tooHigh, {}}}, api.ErrLarge}, {rows{{{}, tooHigh}, {large, {}}}, api.ErrRange}, {rows{{large, tooHigh}}, api.ErrLarge}, {rows{{{}}, {tooHigh}, {large}}, api.ErrRange},
		// what is said of rows is asked of all of them before
		{rows{{large}, {{}, {}}}, api.ErrMany}, {rows{{tooHigh}, nil}, api.ErrMany}, {append(rows{{tooHigh}}, zeros(64, 1)...), api.ErrMany},
	} {
		for name, do := range calls() {
			if zero, e := do(c.m); !zero || e != c.e {
				t.Error(i, name, zero, e)
			}
		}
	}
}

func TestFirstMatrixFirst(t *testing.T) {
	large := rows{{num(most+1, 0, 0, 0, 0)}}
	for i, c := range []struct {
		m, n rows
		e    api.Errno
	}{
		{badRows, nil, api.ErrRange}, {nil, badRows, api.ErrMany}, {badRows, large, api.ErrRange}, {large, badRows, api.ErrLarge}, {zeros(1, 1), large, api.ErrLarge}, {zeros(1, 1), badRows, api.ErrRange}, {zeros(2, 3), nil, api.ErrMany}, {zeros(40, 40), rows{{tooHigh, tooHigh}}, api.ErrRange},
	} {
		_, e1 := matrix.Same(c.m, c.n)
		_, e2 := matrix.Phase(c.m, c.n)
		_, e3 := matrix.Add(c.m, c.n)
		_, e4 := matrix.Mul(c.m, c.n)
		_, e5 := matrix.Kron(c.m, c.n)
		if l := []api.Errno{e1, e2, e3, e4, e5}; slices.ContainsFunc(l, func(e api.Errno) bool { return e != c.e }) {
			t.Error(i, l)
		}
	}
}

func TestRightMatrices(t *testing.T) {
	great := zeros(64, 64)
	great[63][63] = num(most, -most, most, -most, 60)
	for i, m := range []rows{zeros(1, 1), zeros(1, 64), zeros(64, 1), zeros(3, 5), great, {{num(0, 0, 0, 0, 60)}}} {
		l, e := matrix.Least(m)
		if f := matrix.Check(m); e != api.OK || f != api.OK || !equal(l, leastOf(m)) {
			t.Error(i, e, f)
		}
		if is, e := matrix.Same(m, l); !is || e != api.OK {
			t.Error(i, is, e)
		}
	}
}

func TestLeastAndSame(t *testing.T) {
	d := draws(1)
	alike := 0
	for range 2000 {
		m := d.matrix(1+d.below(4), 1+d.below(4), 3, 4)
		l, e := matrix.Least(m)
		if e != api.OK || !equal(l, leastOf(m)) {
			t.Fatal(m, l, e)
		}
		n := d.written(m)
		if is, e := matrix.Same(m, n); !is || e != api.OK {
			t.Fatal(m, n, is, e)
		}
		i, k := d.below(len(n)), d.below(len(n[0]))
		n[i][k] = d.num(3, 4)
		want := equal(leastOf(m), leastOf(n))
		if is, e := matrix.Same(m, n); is != want || e != api.OK {
			t.Fatal(m, n, is, e)
		}
		if want {
			alike++
		}
	}
	if alike == 0 || alike == 2000 {
		t.Error(alike)
	}
	for _, c := range [][2]rows{{zeros(1, 2), zeros(2, 1)}, {zeros(2, 2), zeros(2, 1)}, {zeros(1, 2), zeros(2, 2)}, {zeros(1, 4), zeros(2, 2)}} {
		if is, e := matrix.Same(c[0], c[1]); is || e != api.OK {
			t.Error(c, is, e)
		}
	}
}

func TestPhase(t *testing.T) {
	d := draws(2)
	for range 1500 {
		n := d.matrix(1+d.below(4), 1+d.below(4), 3, 4)
		turn := d.below(8)
		m, _ := modelScale(n, ring.Omega(turn))
		if d.below(3) == 0 {
			m[d.below(len(m))][d.below(len(m[0]))] = d.num(2, 1)
		}
		want, f := 0, api.ErrNone
		for k := 7; k >= 0; k-- {
			if turned, _ := modelScale(n, ring.Omega(k)); equal(turned, leastOf(m)) {
				want, f = k, api.OK
			}
		}
		if k, e := matrix.Phase(d.written(m), d.written(n)); k != want || e != f {
			t.Fatal(m, n, k, e, want, f)
		}
	}
	i := ring.Omega(2)
	for _, c := range []struct {
		m, n rows
		k    int
		e    api.Errno
	}{
		{zeros(2, 3), zeros(2, 3), 0, api.OK}, {zeros(2, 3), zeros(3, 2), 0, api.ErrClash}, {zeros(1, 1), zeros(1, 2), 0, api.ErrClash}, {zeros(1, 1), zeros(2, 1), 0, api.ErrClash}, {zeros(4, 1), zeros(2, 2), 0, api.ErrClash},
		{rows{ints(0, 0)}, rows{ints(0, 1)}, 0, api.ErrNone}, {rows{ints(1, 1)}, rows{ints(1, -1)}, 0, api.ErrNone}, {rows{ints(2)}, rows{ints(1)}, 0, api.ErrNone}, {rows{{i, {}}}, rows{ints(1, 0)}, 2, api.OK}, {rows{{{}, {A: 1}}}, rows{{{}, i}}, 6, api.OK},
		{rows{{num(most, -most, most, -most, 60)}}, rows{{num(-most, most, -most, -most, 60)}}, 1, api.OK}, {rows{{num(most, 0, 0, 0, 0)}}, rows{{num(0, most, 0, 0, 0)}}, 7, api.OK},
		{zeros(64, 64), zeros(64, 64), 0, api.OK},
	} {
		if k, e := matrix.Phase(c.m, c.n); k != c.k || e != c.e {
			t.Error(c, k, e)
		}
	}
}

// P3.2

func TestIdentity(t *testing.T) {
	for wires := range 7 {
		if m, e := matrix.Identity(wires); e != api.OK || !equal(m, modelOne(1<<wires)) {
			t.Error(wires, m, e)
		}
	}
	for _, wires := range []int{-1, 7, 64, math.MinInt, math.MaxInt} {
		if m, e := matrix.Identity(wires); len(m) != 0 || e != api.ErrRange {
			t.Error(wires, m, e)
		}
	}
}

// images is what each kind of gates does with a basis state: where it goes, and what it is multiplied with.
func images(kind, k int) map[int]complex128 {
	on := k == 1
	turned := func(by complex128) map[int]complex128 {
		if on {
			return map[int]complex128{k: by}
		}
		return map[int]complex128{k: 1}
	}
	root := complex(1/math.Sqrt2, 0)
	w := value(ring.Omega(1))
	switch kind {
	case api.X:
		return map[int]complex128{1 - k: 1}
	case api.Y:
		if on {
			return map[int]complex128{0: -1i}
		}
		return map[int]complex128{1: 1i}
	case api.Z:
		return turned(-1)
	case api.H:
		if on {
			return map[int]complex128{0: root, 1: -root}
		}
		return map[int]complex128{0: root, 1: root}
	case api.S:
		return turned(1i)
	case api.Sd:
		return turned(-1i)
	case api.T:
		return turned(w)
	case api.Td:
		return turned(1 / w)
	case api.CX:
		return map[int]complex128{k ^ k&1<<1: 1}
	case api.CZ:
		on = k == 3
		return turned(-1)
	case api.Swap:
		return map[int]complex128{k>>1 | k&1<<1: 1}
	}
	return map[int]complex128{k ^ (k&1)*(k>>1&1)<<2: 1}
}

func sideOf(kind int) int {
	switch {
	case kind < api.CX:
		return 2
	case kind < api.CCX:
		return 4
	}
	return 8
}

func TestOf(t *testing.T) {
	for kind := api.X; kind <= api.CCX; kind++ {
		m, e := matrix.Of(kind)
		side := sideOf(kind)
		if e != api.OK || matrix.Check(m) != api.OK || len(m) != side || len(m[0]) != side || !equal(m, leastOf(m)) {
			t.Error(kind, m, e)
			continue
		}
		for k := range side {
			to := images(kind, k)
			for row := range side {
				if !near(value(m[row][k]), to[row]) {
					t.Error(kind, row, k, m[row][k])
				}
			}
		}
	}
	for _, kind := range []int{0, -1, api.Measure, api.Reset, 15, math.MinInt, math.MaxInt} {
		if m, e := matrix.Of(kind); len(m) != 0 || e != api.ErrRange {
			t.Error(kind, m, e)
		}
	}
}

func TestOnAsTheModel(t *testing.T) {
	d := draws(3)
	for range 800 {
		n := d.below(5)
		k := d.below(n + 1)
		m := d.matrix(1<<k, 1<<k, 3, 3)
		wires := d.wires(k, n)
		if got, e := matrix.On(m, wires, n); e != api.OK || !equal(got, modelOn(m, wires, n)) {
			t.Fatal(m, wires, n, got, e)
		}
	}
	for k := range 7 {
		m := d.matrix(1<<k, 1<<k, 3, 3)
		wires := d.wires(k, 6)
		if got, e := matrix.On(m, wires, 6); e != api.OK || !equal(got, modelOn(m, wires, 6)) {
			t.Fatal(wires, e)
		}
	}
}

func TestErrorsOfOn(t *testing.T) {
	x, cx, one := of(api.X), of(api.CX), rows{ints(1)}
	for _, c := range []struct {
		m     rows
		wires []int
		n     int
		e     api.Errno
	}{
		{badRows, badWires, 9, api.ErrRange}, {nil, badWires, 9, api.ErrMany}, {rows{{num(most+1, 0, 0, 0, 0)}}, badWires, 9, api.ErrLarge},
		{x, []int{0}, 7, api.ErrRange}, {x, []int{0}, -1, api.ErrRange}, {x, badWires, math.MaxInt, api.ErrRange}, {x, badWires, math.MinInt, api.ErrRange}, {zeros(3, 1), badWires, 7, api.ErrRange},
		{x, []int{0}, 0, api.ErrNot}, {x, []int{6}, 6, api.ErrNot}, {x, []int{-1}, 6, api.ErrNot}, {cx, []int{0, 0, 3}, 3, api.ErrNot}, {cx, []int{1, 1, math.MaxInt}, 3, api.ErrNot}, {cx, []int{1, 1, math.MinInt}, 3, api.ErrNot}, {zeros(3, 1), []int{3}, 3, api.ErrNot},
		{cx, []int{0, 0}, 2, api.ErrTwice}, {x, []int{0, 1, 0}, 2, api.ErrTwice}, {zeros(3, 1), []int{2, 1, 2}, 3, api.ErrTwice}, {one, make([]int, 100000), 6, api.ErrTwice},
		{cx, []int{0}, 2, api.ErrClash}, {x, []int{0, 1}, 2, api.ErrClash}, {x, nil, 2, api.ErrClash}, {one, []int{0}, 2, api.ErrClash}, {zeros(2, 3), []int{0}, 2, api.ErrClash}, {zeros(3, 2), []int{0}, 2, api.ErrClash}, {zeros(4, 2), []int{0, 1}, 2, api.ErrClash}, {zeros(3, 3), []int{0, 1}, 2, api.ErrClash}, {zeros(1, 2), nil, 2, api.ErrClash},
	} {
		if m, e := matrix.On(c.m, c.wires, c.n); len(m) != 0 || e != c.e {
			t.Error(c.wires, c.n, m, e, c.e)
		}
	}
	// an operator of no wires is a number
	w := ring.Omega(1)
	if m, e := matrix.On(rows{{num(1, 0, 1, 0, 1)}}, nil, 1); e != api.OK || !equal(m, rows{{w, {}}, {{}, w}}) {
		t.Error(m, e)
	}
	if m, e := matrix.On(rows{{w}}, nil, 0); e != api.OK || !equal(m, rows{{w}}) {
		t.Error(m, e)
	}
	if m, e := matrix.On(of(api.X), []int{1}, 2); e != api.OK || !equal(m, rows{ints(0, 0, 1, 0), ints(0, 0, 0, 1), ints(1, 0, 0, 0), ints(0, 1, 0, 0)}) {
		t.Error(m, e)
	}
	if m, e := matrix.On(of(api.CX), []int{1, 0}, 2); e != api.OK || !equal(m, rows{ints(1, 0, 0, 0), ints(0, 1, 0, 0), ints(0, 0, 0, 1), ints(0, 0, 1, 0)}) {
		t.Error(m, e)
	}
}

// P3.3

// TestCalculatingAsTheModel has small numbers, and great ones with which something is too large now and then.
func TestCalculatingAsTheModel(t *testing.T) {
	d := draws(4)
	errors := map[api.Errno]int{}
	for range 6000 {
		size, parts := [...]int{2, 1000, 30000, most}, d.below(4)
		draw := func() rows { return d.matrix(1+d.below(3), 1+d.below(3), size[parts], 4) }
		m, n, x := draw(), draw(), d.num(size[parts], 60)
		v, u := d.vector(1+d.below(3), size[parts], 4), d.vector(1+d.below(3), size[parts], 4)
		check := func(name string, got, want rows, e, f api.Errno) {
			errors[f]++
			if !equal(got, want) || e != f {
				t.Fatal(name, m, n, x, v, u, got, e, want, f)
			}
		}
		got, e := matrix.Add(m, n)
		want, f := modelAdd(m, n)
		check("Add", got, want, e, f)
		got, e = matrix.Mul(m, n)
		want, f = modelMul(m, n)
		check("Mul", got, want, e, f)
		got, e = matrix.Kron(m, n)
		want, f = modelKron(m, n)
		check("Kron", got, want, e, f)
		got, e = matrix.Scale(m, x)
		want, f = modelScale(m, x)
		check("Scale", got, want, e, f)
		got, e = matrix.Dagger(m)
		check("Dagger", got, modelDagger(m), e, api.OK)
		trace, e := matrix.Trace(m)
		wanted, f := modelTrace(m)
		check("Trace", rows{{trace}}, rows{{wanted}}, e, f)
		image, e := matrix.Apply(m, v)
		wantedImage, f := modelApply(m, v)
		check("Apply", rows{image}, rows{wantedImage}, e, f)
		inner, e := matrix.Inner(v, u)
		wanted, f = modelInner(v, u)
		check("Inner", rows{{inner}}, rows{{wanted}}, e, f)
	}
	for _, e := range []api.Errno{api.OK, api.ErrClash, api.ErrLarge} {
		if errors[e] < 1000 {
			t.Error(errors)
		}
	}
}

// TestValues asks the products themselves, without package ring.
func TestValues(t *testing.T) {
	d := draws(5)
	for range 500 {
		m, n := d.matrix(2, 3, 3, 3), d.matrix(3, 2, 3, 3)
		mul, _ := matrix.Mul(m, n)
		kron, _ := matrix.Kron(m, n)
		dagger, _ := matrix.Dagger(m)
		for i := range 2 {
			for k := range 2 {
				sum := complex128(0)
				for j := range 3 {
					sum += value(m[i][j]) * value(n[j][k])
				}
				if !near(value(mul[i][k]), sum) {
					t.Fatal(m, n, mul)
				}
			}
		}
		for i := range 6 {
			for k := range 6 {
				if !near(value(kron[i][k]), value(m[i/3][k/2])*value(n[i%3][k%2])) {
					t.Fatal(m, n, kron)
				}
			}
		}
		for i := range 3 {
			for k := range 2 {
				x := value(m[k][i])
				if !near(value(dagger[i][k]), complex(real(x), -imag(x))) {
					t.Fatal(m, dagger)
				}
			}
		}
	}
}

func TestTooLarge(t *testing.T) {
	far := rows{ints(most)}
	mul := func(n rows) func(rows) (rows, api.Errno) {
		return func(m rows) (rows, api.Errno) { return matrix.Mul(m, n) }
	}
	add := func(n rows) func(rows) (rows, api.Errno) {
		return func(m rows) (rows, api.Errno) { return matrix.Add(m, n) }
	}
	kron := func(n rows) func(rows) (rows, api.Errno) {
		return func(m rows) (rows, api.Errno) { return matrix.Kron(m, n) }
	}
	scale := func(x api.Num) func(rows) (rows, api.Errno) {
		return func(m rows) (rows, api.Errno) { return matrix.Scale(m, x) }
	}
	trace := func(m rows) (rows, api.Errno) { x, e := matrix.Trace(m); return rows{{x}}, e }
	apply := func(v ...int) func(rows) (rows, api.Errno) {
		return func(m rows) (rows, api.Errno) { x, e := matrix.Apply(m, ints(v...)); return rows{x}, e }
	}
	inner := func(v ...int) func(rows) (rows, api.Errno) {
		return func(m rows) (rows, api.Errno) { x, e := matrix.Inner(m[0], ints(v...)); return rows{{x}}, e }
	}
	ones := rows{ints(1), ints(1), ints(1)}
	none := rows{{{}}}
	for i, c := range []struct {
		do   func(rows) (rows, api.Errno)
		m    rows
		want rows
		e    api.Errno
	}{
		{add(rows{ints(0)}), far, far, api.OK}, {add(rows{ints(-1)}), far, rows{ints(most - 1)}, api.OK}, {add(rows{ints(1)}), far, nil, api.ErrLarge}, {add(rows{ints(1, 1)}), far, nil, api.ErrClash}, {add(rows{ints(0, 1)}), rows{ints(0, most)}, nil, api.ErrLarge},
		{mul(rows{ints(-1)}), far, rows{ints(-most)}, api.OK}, {mul(rows{ints(2)}), far, nil, api.ErrLarge},
		// from the left to the right, a sum that is too large on the way counts
		{mul(ones), rows{ints(most, 1, -1)}, nil, api.ErrLarge}, {mul(ones), rows{ints(most, -1, 1)}, far, api.OK}, {mul(ones), rows{ints(-1, most, 1)}, far, api.OK}, {mul(ones), rows{ints(1, -1, most)}, far, api.OK}, {mul(ones), rows{ints(1, most, -1)}, nil, api.ErrLarge},
		// and so does a product
		{mul(rows{ints(2), ints(-2)}), rows{ints(most, most)}, nil, api.ErrLarge}, {mul(rows{ints(0), ints(1)}), rows{ints(most, most)}, far, api.OK}, {mul(rows{ints(1), ints(0), ints(1)}), rows{ints(most, most, -most)}, rows{ints(0)}, api.OK},
		// the last element, too
		{mul(rows{ints(1, 2)}), rows{ints(0), ints(most)}, nil, api.ErrLarge},
		{kron(rows{ints(1, -1)}), far, rows{ints(most, -most)}, api.OK}, {kron(rows{ints(1, 2)}), far, nil, api.ErrLarge}, {kron(rows{ints(1, 2)}), rows{ints(0, most)}, nil, api.ErrLarge}, {kron(zeros(1, 64)), rows{ints(most, most)}, nil, api.ErrMany}, {kron(rows{append(ints(most), make([]api.Num, 32)...)}), rows{ints(most, most)}, nil, api.ErrMany},
		{scale(num(1, 0, 0, 0, 60)), far, rows{ints(1)}, api.OK}, {scale(ring.Omega(4)), far, rows{ints(-most)}, api.OK}, {scale(num(2, 0, 0, 0, 0)), far, nil, api.ErrLarge}, {scale(num(2, 0, 0, 0, 0)), rows{ints(1), ints(most)}, nil, api.ErrLarge}, {scale(num(1, 0, 0, 0, 60)), rows{{num(1, 0, 0, 0, 1)}}, nil, api.ErrLarge},
		{scale(tooHigh), far, nil, api.ErrRange}, {scale(num(most+1, 0, 0, 0, 0)), far, nil, api.ErrLarge}, {scale(num(most+1, 0, 0, 0, 0)), zeros(1, 1), nil, api.ErrLarge},
		{trace, rows{ints(most, 0), ints(0, -1)}, rows{ints(most - 1)}, api.OK}, {trace, rows{ints(most, 0), ints(0, 1)}, none, api.ErrLarge}, {trace, rows{ints(most, 0, 0), ints(0, 1, 0), ints(0, 0, -1)}, none, api.ErrLarge}, {trace, rows{ints(1, 0, 0), ints(0, -1, 0), ints(0, 0, most)}, far, api.OK}, {trace, rows{ints(most, most)}, none, api.ErrClash}, {trace, rows{ints(most), ints(most)}, none, api.ErrClash}, {trace, rows{{num(2, 0, 0, 0, 2)}}, rows{ints(1)}, api.OK},
		{apply(1, 0), rows{ints(most, most)}, far, api.OK}, {apply(1, 1), rows{ints(most, most)}, rows{nil}, api.ErrLarge}, {apply(2), far, rows{nil}, api.ErrLarge}, {apply(most), rows{ints(0), ints(1), ints(2)}, rows{nil}, api.ErrLarge}, {apply(1, 1), far, rows{nil}, api.ErrClash}, {apply(1), rows{ints(most, most)}, rows{nil}, api.ErrClash},
		{inner(-1), far, rows{ints(-most)}, api.OK}, {inner(2), far, none, api.ErrLarge}, {inner(1, 1, -1), rows{ints(most, 1, 1)}, none, api.ErrLarge}, {inner(1, -1, 1), rows{ints(most, 1, 1)}, far, api.OK}, {inner(1, 1), far, none, api.ErrClash}, {inner(2), rows{ints(most, 1)}, none, api.ErrClash},
	} {
		if got, e := c.do(c.m); !equal(got, c.want) || e != c.e {
			t.Error(i, got, e)
		}
	}
}

func TestUnitary(t *testing.T) {
	w, root := ring.Omega(1), num(1, 0, 0, 0, 1)
	for i, c := range []struct {
		m  rows
		is bool
		e  api.Errno
	}{
		{rows{{w}}, true, api.OK}, {rows{ints(2)}, false, api.OK}, {rows{ints(0)}, false, api.OK}, {rows{{num(2, 0, 0, 0, 2)}}, true, api.OK}, {rows{{root, root}, {root, num(-1, 0, 0, 0, 1)}}, true, api.OK}, {rows{{root, root}, {root, root}}, false, api.OK}, {rows{ints(1, 1), ints(0, 1)}, false, api.OK},
		{rows{ints(0, 1, 0), ints(0, 0, 1), ints(-1, 0, 0)}, true, api.OK}, {rows{{num(1, 0, 1, 0, 2), num(1, 0, -1, 0, 2)}, {num(1, 0, -1, 0, 2), num(1, 0, 1, 0, 2)}}, true, api.OK},
		// columns of the norm 1 that are not orthogonal, though their sum without conjugates is 0
		{rows{{root, num(0, 0, 1, 0, 1)}, {num(0, 0, 1, 0, 1), root}}, true, api.OK}, {rows{{root, root}, {num(0, 0, 1, 0, 1), num(0, 0, 1, 0, 1)}}, false, api.OK},
		// what is not square is not unitary, whatever its product is
		{rows{ints(1), ints(0)}, false, api.OK}, {rows{ints(1, 0)}, false, api.OK}, {rows{ints(most, 0)}, false, api.OK}, {zeros(63, 64), false, api.OK},
		// the whole product is computed
		{rows{ints(most, 0), ints(0, 1)}, false, api.ErrLarge}, {rows{ints(2, 0), ints(0, most)}, false, api.ErrLarge}, {rows{ints(most)}, false, api.ErrLarge},
		{modelOne(64), true, api.OK}, {zeros(64, 64), false, api.OK}, {zeros(65, 65), false, api.ErrMany}, {badRows, false, api.ErrRange},
	} {
		if is, e := matrix.Unitary(c.m); is != c.is || e != c.e {
			t.Error(i, is, e)
		}
	}
}

func TestErrorsOfVectors(t *testing.T) {
	large := ints(1, most+1)
	one := rows{ints(1)}
	for i, c := range []struct {
		v []api.Num
		e api.Errno
	}{
		{nil, api.ErrMany}, {[]api.Num{}, api.ErrMany}, {make([]api.Num, 65), api.ErrMany}, {append(large, make([]api.Num, 63)...), api.ErrMany}, {make([]api.Num, 100000), api.ErrMany},
		{large, api.ErrLarge}, {[]api.Num{tooHigh, large[1]}, api.ErrRange}, {[]api.Num{large[1], tooHigh}, api.ErrLarge}, {[]api.Num{num(0, 0, 0, 0, -1)}, api.ErrRange},
	} {
		x, e := matrix.Apply(one, c.v)
		y, f := matrix.Inner(c.v, []api.Num{tooHigh, {}, {}})
		z, g := matrix.Inner(ints(1, 1, 1, 1), c.v)
		if len(x) != 0 || e != c.e || y != (api.Num{}) || f != c.e || z != (api.Num{}) || g != c.e {
			t.Error(i, x, e, y, f, z, g)
		}
	}
	// the matrix first, and the vector before the sizes
	if _, e := matrix.Apply(badRows, nil); e != api.ErrRange {
		t.Error(e)
	}
	if _, e := matrix.Apply(zeros(2, 3), large); e != api.ErrLarge {
		t.Error(e)
	}
}

func TestLimits(t *testing.T) {
	d := draws(6)
	m, n := d.matrix(64, 64, 2, 2), d.matrix(64, 64, 2, 2)
	v, u := d.vector(64, 2, 2), d.vector(64, 2, 2)
	want, _ := modelMul(m, n)
	if got, e := matrix.Mul(m, n); e != api.OK || !equal(got, want) {
		t.Error(e)
	}
	want, _ = modelAdd(m, n)
	if got, e := matrix.Add(m, n); e != api.OK || !equal(got, want) {
		t.Error(e)
	}
	if got, e := matrix.Dagger(m); e != api.OK || !equal(got, modelDagger(m)) {
		t.Error(e)
	}
	trace, _ := modelTrace(m)
	if x, e := matrix.Trace(m); e != api.OK || x != trace {
		t.Error(x, e)
	}
	image, _ := modelApply(m, v)
	if x, e := matrix.Apply(m, v); e != api.OK || !slices.Equal(x, image) {
		t.Error(e)
	}
	inner, _ := modelInner(v, u)
	if x, e := matrix.Inner(v, u); e != api.OK || x != inner {
		t.Error(x, e)
	}
	for _, c := range []struct {
		a, b, high, wide int
		e                api.Errno
	}{
		{8, 8, 8, 8, api.OK}, {64, 1, 1, 64, api.OK}, {1, 64, 64, 1, api.OK}, {64, 64, 1, 1, api.OK}, {1, 1, 64, 64, api.OK}, {3, 7, 21, 9, api.OK},
		{13, 1, 5, 1, api.ErrMany}, {1, 5, 1, 13, api.ErrMany}, {33, 1, 2, 1, api.ErrMany}, {1, 2, 1, 33, api.ErrMany}, {64, 64, 64, 64, api.ErrMany}, {64, 1, 2, 1, api.ErrMany},
	} {
		a, b := d.matrix(c.a, c.b, 2, 2), d.matrix(c.high, c.wide, 2, 2)
		want, _ := modelKron(a, b)
		if got, e := matrix.Kron(a, b); e != c.e || !equal(got, want) || e == api.OK && (len(got) != c.a*c.high || len(got[0]) != c.b*c.wide) {
			t.Error(c, e)
		}
	}
}

func TestExamples(t *testing.T) {
	h := of(api.H)
	if m, e := matrix.Mul(h, h); e != api.OK || !equal(m, modelOne(2)) {
		t.Error(m, e)
	}
	zx, _ := matrix.Mul(of(api.Z), of(api.X))
	if k, e := matrix.Phase(zx, of(api.Y)); k != 2 || e != api.OK {
		t.Error(k, e)
	}
	if m, e := matrix.Kron(rows{ints(1, 2)}, rows{ints(3), ints(4)}); e != api.OK || !equal(m, rows{ints(3, 6), ints(4, 8)}) {
		t.Error(m, e)
	}
	if x, e := matrix.Inner([]api.Num{{A: 1}, {C: 1}}, ints(1, 1)); x != num(1, 0, -1, 0, 0) || e != api.OK {
		t.Error(x, e)
	}
	if e := matrix.Check(rows{ints(1, 0), ints(0)}); e != api.ErrMany {
		t.Error(e)
	}
}

// P3.4

// unitary returns an operator of n wires that is a product of gates.
func (d *draws) unitary(n, gates int) rows {
	u, _ := matrix.Identity(n)
	for range gates {
		g, _ := d.gate(n)
		u = multiplied(g, u)
	}
	return u
}

// gate returns a gate on wires of n, and on which.
func (d *draws) gate(n int) (rows, []int) {
	kind := 1 + d.below([]int{api.Td, api.Swap, api.CCX}[min(n, 3)-1])
	m := of(kind)
	wires := d.wires(map[int]int{2: 1, 4: 2, 8: 3}[len(m)], n)
	g, _ := matrix.On(m, wires, n)
	return g, wires
}

func multiplied(l ...rows) rows {
	out := l[0]
	for _, m := range l[1:] {
		out, _ = matrix.Mul(out, m)
	}
	return out
}

func daggerOf(m rows) rows {
	out, _ := matrix.Dagger(m)
	return out
}

func added(m, n rows) rows {
	out, _ := matrix.Add(m, n)
	return out
}

func TestProducts(t *testing.T) {
	d := draws(7)
	for range 600 {
		p, q, r, s := 1+d.below(4), 1+d.below(4), 1+d.below(4), 1+d.below(4)
		a, b, c := d.matrix(p, q, 4, 3), d.matrix(q, r, 4, 3), d.matrix(r, s, 4, 3)
		b2 := d.matrix(q, r, 4, 3)
		left, right := multiplied(multiplied(a, b), c), multiplied(a, multiplied(b, c))
		if len(left) != p || !equal(left, right) {
			t.Fatal(a, b, c, left, right)
		}
		if x, y := multiplied(a, added(b, b2)), added(multiplied(a, b), multiplied(a, b2)); len(x) != p || !equal(x, y) {
			t.Fatal(a, b, b2, x, y)
		}
		if x, y := multiplied(added(b, b2), c), added(multiplied(b, c), multiplied(b2, c)); len(x) != q || !equal(x, y) {
			t.Fatal(b, b2, c, x, y)
		}
		if x, y := daggerOf(multiplied(a, b)), multiplied(daggerOf(b), daggerOf(a)); len(x) != r || !equal(x, y) {
			t.Fatal(a, b, x, y)
		}
		if !equal(daggerOf(daggerOf(a)), leastOf(a)) {
			t.Fatal(a)
		}
		back := d.matrix(q, p, 4, 3)
		x, e := matrix.Trace(multiplied(a, back))
		y, f := matrix.Trace(multiplied(back, a))
		if x != y || e != api.OK || f != api.OK {
			t.Fatal(a, back, x, y, e, f)
		}
	}
}

func TestUnitaryOperators(t *testing.T) {
	d := draws(8)
	ask := func(what string, m rows) {
		if is, e := matrix.Unitary(m); !is || e != api.OK {
			t.Fatal(what, m, is, e)
		}
	}
	for kind := api.X; kind <= api.CCX; kind++ {
		ask("Of", of(kind))
	}
	for range 60 {
		n, k := 1+d.below(3), 1+d.below(3)
		u, o := d.unitary(n, 12), d.unitary(k, 12)
		ask("Mul", u)
		kron, _ := matrix.Kron(u, o)
		ask("Kron", kron)
		on, _ := matrix.On(u, d.wires(n, 6), 6)
		ask("On", on)
		v, w := d.vector(1<<n, 3, 3), d.vector(1<<n, 3, 3)
		uv, _ := matrix.Apply(u, v)
		uw, _ := matrix.Apply(u, w)
		before, e := matrix.Inner(v, w)
		after, f := matrix.Inner(uv, uw)
		if before != after || e != api.OK || f != api.OK {
			t.Fatal(u, v, w, before, after, e, f)
		}
	}
}

// What is done on some wires, and on others, can be done in any order, and Kron does both at once.
func TestOnOtherWires(t *testing.T) {
	d := draws(9)
	for range 60 {
		n, k := 1+d.below(2), 1+d.below(3)
		u, o := d.matrix(1<<n, 1<<n, 3, 2), d.matrix(1<<k, 1<<k, 3, 2)
		wires := d.wires(n+k, n+k+d.below(7-n-k))
		all := max(slices.Max(wires)+1, n+k)
		a, e := matrix.On(u, wires[:n], all)
		b, f := matrix.On(o, wires[n:], all)
		kron, _ := matrix.Kron(o, u)
		both, g := matrix.On(kron, wires, all)
		if e != api.OK || f != api.OK || g != api.OK || !equal(multiplied(a, b), both) || !equal(multiplied(b, a), both) {
			t.Fatal(u, o, wires, e, f, g)
		}
	}
}

// R4

func TestMemory(t *testing.T) {
	d := draws(10)
	m, n, v, wires := d.matrix(2, 2, 3, 3), d.matrix(2, 2, 3, 3), d.vector(2, 3, 3), []int{1}
	mc, nc, vc, wc := clone(m), clone(n), slices.Clone(v), slices.Clone(wires)
	results := map[string]func() rows{
		"Least":    func() rows { x, _ := matrix.Least(m); return x },
		"Identity": func() rows { x, _ := matrix.Identity(1); return x },
		"Of":       func() rows { return of(api.H) },
		"On":       func() rows { x, _ := matrix.On(m, wires, 2); return x },
		"Add":      func() rows { return added(m, n) },
		"Mul":      func() rows { return multiplied(m, n) },
		"Kron":     func() rows { x, _ := matrix.Kron(m, n); return x },
		"Scale":    func() rows { x, _ := matrix.Scale(m, v[0]); return x },
		"Dagger":   func() rows { return daggerOf(m) },
		"Apply":    func() rows { x, _ := matrix.Apply(m, v); return rows{x} },
	}
	for name, do := range results {
		first := do()
		kept := clone(first)
		for i := range first {
			other := do()
			for k := range first[i] {
				first[i][k] = num(7, 7, 7, 7, 7)
			}
			// what is behind a row must not be the next one
			first[i] = append(first[i], num(8, 8, 8, 8, 8))
			if !equal(other, kept) || i+1 < len(first) && !equal(first[i+1:], kept[i+1:]) {
				t.Error(name, i)
			}
		}
		if !equal(do(), kept) {
			t.Error(name)
		}
	}
	matrix.Same(m, n)
	matrix.Phase(m, n)
	matrix.Trace(m)
	matrix.Unitary(m)
	matrix.Inner(v, v)
	if !equal(m, mc) || !equal(n, nc) || !slices.Equal(v, vc) || !slices.Equal(wires, wc) {
		t.Error("an argument was changed")
	}
}

// P0.1

func TestAnyArguments(t *testing.T) {
	d := draws(11)
	odd := []int{0, 1, 2, 6, 7, 12, 13, 60, 61, 64, -1, most, most + 1, -most - 1, math.MinInt, math.MaxInt}
	pick := func() int { return odd[d.below(len(odd))] }
	vector := func() []api.Num {
		v := make([]api.Num, d.below(4))
		for i := range v {
			v[i] = num(pick(), pick(), pick(), pick(), pick())
		}
		return v
	}
	ragged := func() rows {
		m := make(rows, d.below(4))
		for i := range m {
			m[i] = vector()
		}
		return m
	}
	for range 3000 {
		m, n, v, k := ragged(), ragged(), vector(), pick()
		for name, do := range calls() {
			if zero, e := do(m); !zero && e != api.OK {
				t.Fatal(name, m, e)
			}
		}
		matrix.Phase(m, n)
		matrix.Add(m, n)
		matrix.Mul(m, n)
		matrix.Kron(m, n)
		matrix.Same(m, n)
		matrix.Apply(m, v)
		matrix.Inner(v, vector())
		matrix.Scale(m, num(pick(), pick(), pick(), pick(), pick()))
		matrix.On(m, []int{pick(), pick()}, k)
		matrix.Identity(k)
		matrix.Of(k)
	}
}
