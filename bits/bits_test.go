package bits_test

import (
	"math"
	"slices"
	"testing"

	"spoondrift/api"
	"spoondrift/bits"
)

func rows(l ...int) []int { return l }

// call is a function with its arguments, of which only the rows, or a number, are left; it tells whether the results are zero, too.
type call func(l []int, n int) (bool, api.Errno)

func list(do func([]int, int) ([]int, api.Errno)) call {
	return func(l []int, n int) (bool, api.Errno) {
		x, e := do(l, n)
		return len(x) == 0, e
	}
}

func number(do func([]int, int, int) (int, api.Errno), arg int) call {
	return func(l []int, n int) (bool, api.Errno) {
		x, e := do(l, n, arg)
		return x == 0, e
	}
}

// calls are all functions that have rows, with another argument that would be an error, too, if they have one.
func calls() map[string]call {
	return map[string]call{
		"Check":     func(l []int, n int) (bool, api.Errno) { return true, bits.Check(l, n) },
		"Rank":      func(l []int, n int) (bool, api.Errno) { x, e := bits.Rank(l, n); return x == 0, e },
		"Member":    func(l []int, n int) (bool, api.Errno) { x, e := bits.Member(l, n, -1); return !x, e },
		"Same":      func(l []int, n int) (bool, api.Errno) { x, e := bits.Same(l, rows(-1), n); return !x, e },
		"Same b":    func(l []int, n int) (bool, api.Errno) { x, e := bits.Same(nil, l, n); return !x, e },
		"Meet":      list(func(l []int, n int) ([]int, api.Errno) { return bits.Meet(l, rows(-1), n) }),
		"Meet b":    list(func(l []int, n int) ([]int, api.Errno) { return bits.Meet(nil, l, n) }),
		"Mul":       list(func(l []int, n int) ([]int, api.Errno) { return bits.Mul(l, n, nil, 0) }),
		"Mul b":     list(func(l []int, n int) ([]int, api.Errno) { return bits.Mul(rows(1), 16, l, n) }),
		"Reduce":    list(bits.Reduce),
		"Null":      list(bits.Null),
		"Free":      list(bits.Free),
		"Transpose": list(bits.Transpose),
		"Invert":    list(bits.Invert),
		"Weights":   list(bits.Weights),
		"Which":     number(bits.Which, -1),
		"Solve":     number(bits.Solve, -1),
		"Apply":     number(bits.Apply, -1),
		"Coset":     number(bits.Coset, -1),
	}
}

// P2.1

func TestErrorsOfCheck(t *testing.T) {
	tooMany := make([]int, bits.MaxRows+1)
	for _, c := range []struct {
		l []int
		n int
		e api.Errno
	}{
		{nil, 0, api.ErrRange}, {nil, -1, api.ErrRange}, {nil, 17, api.ErrRange}, {nil, math.MinInt, api.ErrRange}, {nil, math.MaxInt, api.ErrRange}, {nil, 64, api.ErrRange},
		{tooMany, 0, api.ErrRange}, {rows(-1), 17, api.ErrRange},
		{tooMany, 1, api.ErrMany}, {tooMany, 16, api.ErrMany}, {slices.Concat(rows(-1), tooMany), 16, api.ErrMany},
		{rows(2), 1, api.ErrForm}, {rows(65536), 16, api.ErrForm}, {rows(-1), 16, api.ErrForm}, {rows(0, 1, 8), 3, api.ErrForm}, {rows(math.MinInt), 5, api.ErrForm}, {rows(math.MaxInt), 5, api.ErrForm}, {slices.Concat(tooMany[:23], rows(4)), 2, api.ErrForm},
	} {
		for name, do := range calls() {
			if zero, e := do(c.l, c.n); !zero || e != c.e {
				t.Error(name, c.l, c.n, zero, e)
			}
		}
	}
}

func TestCheckOfRightRows(t *testing.T) {
	for n := 1; n <= bits.MaxCols; n++ {
		full := make([]int, bits.MaxRows)
		for i := range full {
			full[i] = 1<<n - 1
		}
		for _, l := range [][]int{nil, {}, {0}, full} {
			if e := bits.Check(l, n); e != api.OK {
				t.Error(l, n, e)
			}
		}
	}
}

// The first list decides, before the second one and before what comes behind.
func TestFirstListFirst(t *testing.T) {
	tooMany := make([]int, bits.MaxRows+1)
	for _, c := range []struct {
		a, b []int
		e    api.Errno
	}{
		{rows(8), tooMany, api.ErrForm}, {tooMany, rows(8), api.ErrMany}, {rows(1), rows(8), api.ErrForm}, {rows(1), tooMany, api.ErrMany},
	} {
		_, e := bits.Same(c.a, c.b, 3)
		_, f := bits.Meet(c.a, c.b, 3)
		_, g := bits.Mul(c.a, 3, c.b, 3)
		if e != c.e || f != c.e || g != c.e {
			t.Error(c.a, c.b, e, f, g)
		}
	}
	if _, e := bits.Mul(rows(8), 3, nil, 0); e != api.ErrForm {
		t.Error(e)
	}
	if _, e := bits.Mul(nil, 0, rows(8), 3); e != api.ErrRange {
		t.Error(e)
	}
}

// P2.2

func TestSpansAsTheModel(t *testing.T) {
	d := draws(1)
	for range 3000 {
		n := 1 + d.below(6)
		l := d.rows(d.below(9), n)
		in := membersOf(l, n)
		r, e := bits.Reduce(l, n)
		if e != api.OK || !areReduced(r) || !slices.Equal(membersOf(r, n), in) {
			t.Fatal(l, n, r, e)
		}
		if k, e := bits.Rank(l, n); e != api.OK || k != len(r) || 1<<k != count(in) {
			t.Fatal(l, n, k, e)
		}
		other := d.rows(d.below(5), n)
		if d.below(2) == 0 {
			// the same span by other rows, where enough of them are drawn
			other = nil
			for range 2 * len(r) {
				other = append(other, sumOf(l, d.below(1<<len(l))))
			}
		}
		is, e := bits.Same(l, other, n)
		if e != api.OK || is != slices.Equal(in, membersOf(other, n)) {
			t.Fatal(l, other, n, is, e)
		}
		for row := range 1 << n {
			if is, e := bits.Member(l, n, row); e != api.OK || is != in[row] {
				t.Fatal(l, n, row, is, e)
			}
		}
	}
}

func TestWhichIsTheLeast(t *testing.T) {
	d := draws(2)
	for range 1500 {
		n := 1 + d.below(6)
		l := d.rows(d.below(bits.MaxRows+1), n)
		for range 4 {
			row := d.below(1 << n)
			x, e := bits.Which(l, n, row)
			want := leastWhich(l, n, row)
			if want < 0 && (x != 0 || e != api.ErrNone) || want >= 0 && (x != want || e != api.OK) {
				t.Fatal(l, n, row, x, e, want)
			}
		}
	}
	// all numbers, where they are few
	for range 300 {
		n := 1 + d.below(4)
		l := d.rows(d.below(7), n)
		for row := range 1 << n {
			want, f := 0, api.ErrNone
			for k := range 1 << len(l) {
				if sumOf(l, k) == row {
					want, f = k, api.OK
					break
				}
			}
			if x, e := bits.Which(l, n, row); x != want || e != f {
				t.Fatal(l, n, row, x, e)
			}
		}
	}
}

func TestSpansByExample(t *testing.T) {
	l := rows(3, 5, 6)
	if r, e := bits.Reduce(l, 4); !slices.Equal(r, rows(5, 3)) || e != api.OK {
		t.Error(r, e)
	}
	if k, e := bits.Rank(l, 4); k != 2 || e != api.OK {
		t.Error(k, e)
	}
	for _, c := range []struct {
		l         []int
		n, row, x int
		e         api.Errno
	}{
		{l, 4, 6, 3, api.OK}, {l, 4, 0, 0, api.OK}, {l, 4, 8, 0, api.ErrNone}, {l, 4, 7, 0, api.ErrNone}, {l, 4, 16, 0, api.ErrForm}, {l, 4, -1, 0, api.ErrForm},
		{nil, 16, 0, 0, api.OK}, {nil, 16, 65535, 0, api.ErrNone}, {nil, 16, 65536, 0, api.ErrForm}, {rows(0, 0, 1), 1, 1, 4, api.OK}, {rows(7, 7, 7), 3, 7, 1, api.OK},
		{append(make([]int, 23), 65535), 16, 65535, 1 << 23, api.OK},
	} {
		if x, e := bits.Which(c.l, c.n, c.row); x != c.x || e != c.e {
			t.Error(c, x, e)
		}
		want := c.e
		if want == api.ErrNone {
			want = api.OK
		}
		if is, e := bits.Member(c.l, c.n, c.row); is != (c.e == api.OK) || e != want {
			t.Error(c, is, e)
		}
	}
	for _, c := range []struct {
		a, b []int
		is   bool
	}{{nil, rows(0, 0), true}, {nil, nil, true}, {nil, rows(1), false}, {rows(1, 2), rows(3, 1), true}, {rows(1, 2), rows(3), false}, {rows(4, 1), rows(4, 2), false}} {
		if is, e := bits.Same(c.a, c.b, 3); is != c.is || e != api.OK {
			t.Error(c, is, e)
		}
	}
}

// P2.3

func TestOrthogonalRowsAsTheModel(t *testing.T) {
	d := draws(3)
	for range 3000 {
		n := 1 + d.below(6)
		l := d.rows(d.below(9), n)
		z, e := bits.Null(l, n)
		if e != api.OK || !areReduced(z) || !slices.Equal(membersOf(z, n), orthogonalTo(l, n)) {
			t.Fatal(l, n, z, e)
		}
		other := d.rows(d.below(9), n)
		both := membersOf(l, n)
		for x, is := range membersOf(other, n) {
			both[x] = both[x] && is
		}
		m, e := bits.Meet(l, other, n)
		if e != api.OK || !areReduced(m) || !slices.Equal(membersOf(m, n), both) {
			t.Fatal(l, other, n, m, e)
		}
		var want []int
		leads := map[int]bool{}
		for x, is := range membersOf(l, n) {
			if is && x > 0 {
				leads[lead(x)] = true
			}
		}
		for k := range n {
			if !leads[k] {
				want = append(want, k)
			}
		}
		if free, e := bits.Free(l, n); e != api.OK || !slices.Equal(free, want) {
			t.Fatal(l, n, free, e, want)
		}
	}
}

// answers is what a row has in common with each row of l: bit i for row i.
func answers(l []int, x int) int {
	b := 0
	for i, row := range l {
		b |= ones(row&x) % 2 << i
	}
	return b
}

func TestSolveAsTheModel(t *testing.T) {
	d := draws(4)
	solved, none := 0, 0
	for range 6000 {
		n := 1 + d.below(6)
		l := d.rows(d.below(bits.MaxRows+1), n)
		b := d.below(1 << len(l))
		if d.below(2) == 0 {
			b = answers(l, d.below(1<<n))
		}
		want, f := 0, api.ErrNone
		for x := range 1 << n {
			if answers(l, x) == b {
				want, f = x, api.OK
				solved++
				break
			}
		}
		if f != api.OK {
			none++
		}
		if x, e := bits.Solve(l, n, b); x != want || e != f {
			t.Fatal(l, n, b, x, e, want, f)
		}
	}
	if solved < 1000 || none < 1000 {
		t.Error(solved, none)
	}
}

func TestOrthogonalRowsByExample(t *testing.T) {
	for _, c := range []struct {
		do   func([]int, int) ([]int, api.Errno)
		l    []int
		n    int
		want []int
	}{
		{bits.Null, rows(3, 5, 6), 4, rows(8, 7)}, {bits.Free, rows(3, 5, 6), 4, rows(0, 3)},
		{bits.Null, nil, 3, rows(4, 2, 1)}, {bits.Null, rows(1, 2), 2, nil}, {bits.Free, nil, 3, rows(0, 1, 2)}, {bits.Free, rows(1, 2), 2, nil}, {bits.Free, rows(6), 3, rows(0, 1)},
		{func(l []int, n int) ([]int, api.Errno) { return bits.Meet(l, rows(5, 2), n) }, rows(3, 4), 3, rows(7)},
		{func(l []int, n int) ([]int, api.Errno) { return bits.Meet(l, nil, n) }, rows(3, 4), 3, nil},
		{func(l []int, n int) ([]int, api.Errno) { return bits.Meet(l, l, n) }, rows(3, 5, 6), 3, rows(5, 3)},
	} {
		if x, e := c.do(c.l, c.n); !slices.Equal(x, c.want) || e != api.OK {
			t.Error(c.l, c.n, x, e)
		}
	}
	for _, c := range []struct {
		l       []int
		n, b, x int
		e       api.Errno
	}{
		{rows(3, 6), 3, 1, 1, api.OK}, {rows(3, 6), 3, 3, 2, api.OK}, {rows(3, 6), 3, 0, 0, api.OK}, {rows(3, 3), 3, 1, 0, api.ErrNone}, {rows(0), 3, 1, 0, api.ErrNone},
		{rows(3, 6), 3, 4, 0, api.ErrForm}, {rows(3, 6), 3, -1, 0, api.ErrForm}, {nil, 3, 0, 0, api.OK}, {nil, 3, 1, 0, api.ErrForm}, {rows(3), 3, math.MaxInt, 0, api.ErrForm}, {rows(3), 3, math.MinInt, 0, api.ErrForm},
		{make([]int, 24), 16, 1<<24 - 1, 0, api.ErrNone}, {make([]int, 24), 16, 1 << 24, 0, api.ErrForm}, {append(make([]int, 23), 32768), 16, 1 << 23, 32768, api.OK}, {rows(65535), 16, 1, 1, api.OK},
	} {
		if x, e := bits.Solve(c.l, c.n, c.b); x != c.x || e != c.e {
			t.Error(c, x, e)
		}
	}
}

// P2.4

func TestMatricesAsTheModel(t *testing.T) {
	d := draws(5)
	for range 3000 {
		m, n := 1+d.below(16), 1+d.below(16)
		a, b := d.rows(d.below(bits.MaxRows+1), m), d.rows(m, n)
		c, e := bits.Mul(a, m, b, n)
		if e != api.OK || len(c) != len(a) {
			t.Fatal(a, m, b, n, c, e)
		}
		for i := range c {
			if c[i] != sumOf(b, a[i]) {
				t.Fatal(a, m, b, n, c)
			}
		}
		x := d.below(1 << m)
		if y, e := bits.Apply(a, m, x); y != answers(a, x) || e != api.OK {
			t.Fatal(a, m, x, y, e)
		}
		l, e := bits.Transpose(b, n)
		if e != api.OK || len(l) != n {
			t.Fatal(b, n, l, e)
		}
		for i := range m {
			for k := range n {
				if l[k]>>i&1 != b[i]>>k&1 {
					t.Fatal(b, n, l)
				}
			}
		}
		if slices.Max(l) >= 1<<m {
			t.Fatal(b, n, l)
		}
	}
}

func TestInvert(t *testing.T) {
	d := draws(6)
	inverted := 0
	for range 2000 {
		n := 1 + d.below(16)
		l := d.rows(n, n)
		if d.below(2) == 0 {
			l = d.invertible(n)
		}
		a, e := bits.Invert(l, n)
		if r, _ := bits.Rank(l, n); r < n {
			if e != api.ErrNone || len(a) != 0 {
				t.Fatal(l, n, a, e)
			}
			continue
		}
		if e != api.OK || len(a) != n {
			t.Fatal(l, n, a, e)
		}
		inverted++
		for i := range n {
			if sumOf(l, a[i]) != 1<<i || sumOf(a, l[i]) != 1<<i {
				t.Fatal(l, n, a)
			}
		}
	}
	if inverted < 500 {
		t.Error(inverted)
	}
}

func TestMatricesByExample(t *testing.T) {
	identity := func(l []int, n int) ([]int, api.Errno) { return bits.Identity(n) }
	times := func(m int, b []int) func([]int, int) ([]int, api.Errno) {
		return func(l []int, n int) ([]int, api.Errno) { return bits.Mul(l, m, b, n) }
	}
	for i, c := range []struct {
		do   func([]int, int) ([]int, api.Errno)
		l    []int
		n    int
		want []int
		e    api.Errno
	}{
		{bits.Invert, rows(3, 2, 4), 3, rows(3, 2, 4), api.OK}, {bits.Invert, rows(1), 1, rows(1), api.OK}, {bits.Invert, rows(0), 1, nil, api.ErrNone}, {bits.Invert, rows(3, 5, 6), 3, nil, api.ErrNone},
		{bits.Invert, rows(1, 2), 3, nil, api.ErrClash}, {bits.Invert, rows(1, 2, 4, 4), 3, nil, api.ErrClash}, {bits.Invert, nil, 1, nil, api.ErrClash}, {bits.Invert, rows(0, 0), 3, nil, api.ErrClash},
		{times(2, rows(5, 6)), rows(1, 3), 3, rows(5, 3), api.OK}, {times(2, rows(5, 6)), rows(0, 2), 3, rows(0, 6), api.OK}, {times(2, rows(5, 6)), nil, 3, nil, api.OK},
		{times(2, rows(5, 6, 7)), rows(1), 3, nil, api.ErrClash}, {times(2, rows(5)), rows(1), 3, nil, api.ErrClash}, {times(2, nil), nil, 3, nil, api.ErrClash},
		{bits.Transpose, rows(3, 6), 3, rows(1, 3, 2), api.OK}, {bits.Transpose, nil, 3, nil, api.ErrClash}, {bits.Transpose, make([]int, 17), 3, nil, api.ErrClash}, {bits.Transpose, make([]int, 16), 3, rows(0, 0, 0), api.OK}, {bits.Transpose, append(make([]int, 15), 5), 3, rows(32768, 0, 32768), api.OK},
		{identity, nil, 1, rows(1), api.OK}, {identity, nil, 4, rows(1, 2, 4, 8), api.OK}, {identity, nil, 0, nil, api.ErrRange}, {identity, nil, -1, nil, api.ErrRange}, {identity, nil, 17, nil, api.ErrRange}, {identity, nil, math.MaxInt, nil, api.ErrRange},
	} {
		if x, e := c.do(c.l, c.n); !slices.Equal(x, c.want) || e != c.e {
			t.Error(i, x, e)
		}
	}
	if l, e := bits.Identity(16); len(l) != 16 || l[0] != 1 || l[15] != 32768 || e != api.OK {
		t.Error(l, e)
	}
	for _, c := range []struct {
		l       []int
		n, x, y int
		e       api.Errno
	}{
		{rows(3, 6), 3, 2, 3, api.OK}, {rows(3, 6), 3, 7, 0, api.OK}, {rows(3, 6), 3, 8, 0, api.ErrForm}, {rows(3, 6), 3, -1, 0, api.ErrForm}, {nil, 3, 5, 0, api.OK}, {nil, 3, 8, 0, api.ErrForm},
	} {
		if y, e := bits.Apply(c.l, c.n, c.x); y != c.y || e != c.e {
			t.Error(c, y, e)
		}
	}
	full := slices.Repeat(rows(65535), 24)
	if y, e := bits.Apply(full, 16, 32768); y != 1<<24-1 || e != api.OK {
		t.Error(y, e)
	}
}

// P2.5

func TestWeightsAndCosetsAsTheModel(t *testing.T) {
	d := draws(7)
	for range 2000 {
		n := 1 + d.below(6)
		l := d.rows(d.below(9), n)
		in := membersOf(l, n)
		want := make([]int, n+1)
		for x, is := range in {
			if is {
				want[ones(x)]++
			}
		}
		if w, e := bits.Weights(l, n); !slices.Equal(w, want) || e != api.OK {
			t.Fatal(l, n, w, e)
		}
		for row := range 1 << n {
			best := row
			for x, is := range in {
				y := x ^ row
				if is && (ones(y) < ones(best) || ones(y) == ones(best) && y < best) {
					best = y
				}
			}
			if x, e := bits.Coset(l, n, row); x != best || e != api.OK {
				t.Fatal(l, n, row, x, e)
			}
		}
	}
}

func TestWeightsByExample(t *testing.T) {
	for _, c := range []struct {
		x, w int
		e    api.Errno
	}{{0, 0, api.OK}, {1, 1, api.OK}, {6, 2, api.OK}, {math.MaxInt, 63, api.OK}, {1 << 40, 1, api.OK}, {-1, 0, api.ErrRange}, {math.MinInt, 0, api.ErrRange}} {
		if w, e := bits.Weight(c.x); w != c.w || e != c.e {
			t.Error(c, w, e)
		}
	}
	for _, c := range []struct {
		l    []int
		n    int
		want []int
	}{{rows(3, 5, 6), 4, rows(1, 0, 3, 0, 0)}, {rows(8, 7), 4, rows(1, 1, 0, 1, 1)}, {nil, 2, rows(1, 0, 0)}, {rows(0, 0), 1, rows(1, 0)}, {rows(1, 1), 1, rows(1, 1)}} {
		if w, e := bits.Weights(c.l, c.n); !slices.Equal(w, c.want) || e != api.OK {
			t.Error(c, w, e)
		}
	}
	for _, c := range []struct {
		l         []int
		n, row, x int
		e         api.Errno
	}{
		{rows(3, 5, 6), 3, 7, 1, api.OK}, {rows(3), 2, 2, 1, api.OK}, {nil, 4, 9, 9, api.OK}, {rows(3, 5, 6), 3, 8, 0, api.ErrForm}, {rows(3), 3, -1, 0, api.ErrForm}, {nil, 16, 65536, 0, api.ErrForm},
	} {
		if x, e := bits.Coset(c.l, c.n, c.row); x != c.x || e != c.e {
			t.Error(c, x, e)
		}
	}
}

// All 65536 members, by as many rows as there can be.
func TestTheGreatestSpan(t *testing.T) {
	d := draws(8)
	l := append(d.invertible(16), d.rowsOfAll(8, 16)...)
	w, e := bits.Weights(l, 16)
	if e != api.OK || len(w) != 17 {
		t.Fatal(w, e)
	}
	for k := range w {
		if w[k] != choose(16, k) {
			t.Error(k, w)
		}
	}
	if x, e := bits.Coset(l, 16, 65535); x != 0 || e != api.OK {
		t.Error(x, e)
	}
	if r, e := bits.Rank(l, 16); r != 16 || e != api.OK {
		t.Error(r, e)
	}
	if z, e := bits.Null(l, 16); len(z) != 0 || e != api.OK {
		t.Error(z, e)
	}
	if m, e := bits.Meet(l, l, 16); len(m) != 16 || m[0] != 32768 || m[15] != 1 || e != api.OK {
		t.Error(m, e)
	}
	if free, e := bits.Free(l, 16); len(free) != 0 || e != api.OK {
		t.Error(free, e)
	}
}

// P2.6

// of returns a list that must come without an error.
func of(t *testing.T) func([]int, api.Errno) []int {
	return func(l []int, e api.Errno) []int {
		t.Helper()
		if e != api.OK {
			t.Fatal(e)
		}
		return l
	}
}

func TestWhatFollowsOfSpans(t *testing.T) {
	of := of(t)
	d := draws(9)
	for range 3000 {
		n := 1 + d.below(16)
		// together not more rows than there can be
		a, b := d.rows(d.below(bits.MaxRows/2+1), n), d.rows(d.below(bits.MaxRows/2+1), n)
		p, q := of(bits.Reduce(a, n)), of(bits.Reduce(b, n))
		y, z := of(bits.Null(a, n)), of(bits.Null(b, n))
		if !slices.Equal(of(bits.Null(y, n)), p) || len(p)+len(y) != n {
			t.Fatal(a, n, p, y)
		}
		if !slices.Equal(of(bits.Reduce(p, n)), p) || !areReduced(p) {
			t.Fatal(a, n, p)
		}
		if is, e := bits.Same(a, b, n); is != slices.Equal(p, q) || e != api.OK {
			t.Fatal(a, b, n, is, e)
		}
		m := of(bits.Meet(a, b, n))
		if !slices.Equal(m, of(bits.Meet(b, a, n))) {
			t.Fatal(a, b, n, m)
		}
		for _, x := range m {
			for _, o := range slices.Concat(y, z) {
				if ones(x&o)%2 == 1 {
					t.Fatal(a, b, n, m)
				}
			}
		}
		both := of(bits.Reduce(slices.Concat(a, b), n))
		if len(p)+len(q) != len(m)+len(both) {
			t.Fatal(a, b, n, m, both)
		}
		free := of(bits.Free(a, n))
		if len(free)+len(p) != n || !slices.IsSorted(free) {
			t.Fatal(a, n, free)
		}
	}
}

func TestWhatIsSolvedSolves(t *testing.T) {
	d := draws(10)
	for range 3000 {
		n := 1 + d.below(16)
		l := d.rows(d.below(bits.MaxRows+1), n)
		y := d.below(1 << n)
		b, e := bits.Apply(l, n, y)
		x, f := bits.Solve(l, n, b)
		c, g := bits.Apply(l, n, x)
		if e != api.OK || f != api.OK || g != api.OK || c != b || x > y {
			t.Fatal(l, n, y, b, x, c, e, f, g)
		}
		row := sumOf(l, d.below(1<<len(l)))
		k, e := bits.Which(l, n, row)
		if e != api.OK || sumOf(l, k) != row {
			t.Fatal(l, n, row, k, e)
		}
	}
}

func TestWhatFollowsOfMatrices(t *testing.T) {
	of := of(t)
	d := draws(11)
	for range 2000 {
		k, m, n := 1+d.below(16), 1+d.below(16), 1+d.below(16)
		a, b := d.rows(k, m), d.rows(m, n)
		product := of(bits.Mul(a, m, b, n))
		x := d.below(1 << n)
		inner, e := bits.Apply(b, n, x)
		outer, f := bits.Apply(a, m, inner)
		y, g := bits.Apply(product, n, x)
		if e != api.OK || f != api.OK || g != api.OK || y != outer {
			t.Fatal(a, m, b, n, x, y, outer, e, f, g)
		}
		across := of(bits.Transpose(b, n))
		p, e := bits.Rank(b, n)
		q, f := bits.Rank(across, m)
		if e != api.OK || f != api.OK || p != q || !slices.Equal(of(bits.Transpose(across, m)), b) {
			t.Fatal(b, n, p, q, e, f)
		}
		l, one := d.invertible(n), of(bits.Identity(n))
		inverse := of(bits.Invert(l, n))
		if !slices.Equal(of(bits.Mul(l, n, inverse, n)), one) || !slices.Equal(of(bits.Mul(inverse, n, l, n)), one) || !slices.Equal(of(bits.Invert(inverse, n)), l) {
			t.Fatal(l, n, inverse)
		}
	}
}

func choose(n, k int) int {
	if k < 0 || k > n {
		return 0
	}
	many := 1
	for i := range k {
		many = many * (n - i) / (i + 1)
	}
	return many
}

func TestWeightsTellThoseOfNull(t *testing.T) {
	of := of(t)
	d := draws(12)
	for i := range 200 {
		n := 1 + d.below(16)
		if i < 10 {
			n = 16
		}
		l := d.rows(d.below(bits.MaxRows+1), n)
		w, v := of(bits.Weights(l, n)), of(bits.Weights(of(bits.Null(l, n)), n))
		r, e := bits.Rank(l, n)
		if e != api.OK {
			t.Fatal(e)
		}
		for j := range n + 1 {
			total := 0
			for k := range n + 1 {
				for i := range j + 1 {
					part := w[k] * choose(k, i) * choose(n-k, j-i)
					if i%2 == 1 {
						part = -part
					}
					total += part
				}
			}
			if v[j]<<r != total {
				t.Fatal(l, n, j, w, v)
			}
		}
	}
}

// R3, R4, P0.1

func TestEmptyIsNil(t *testing.T) {
	for name, do := range calls() {
		zero, e := do(nil, 4)
		other, f := do(rows(), 4)
		if zero != other || e != f {
			t.Error(name, zero, e, other, f)
		}
	}
}

func TestMemoryIsNotShared(t *testing.T) {
	l, inverse := rows(3, 5, 6, 8), rows(1, 3, 6, 12)
	for i, do := range []func() []int{
		func() []int { x, _ := bits.Reduce(l, 4); return x },
		func() []int { x, _ := bits.Reduce(rows(8, 4, 2, 1), 4); return x },
		func() []int { x, _ := bits.Null(l[:3], 4); return x },
		func() []int { x, _ := bits.Meet(l, inverse, 4); return x },
		func() []int { x, _ := bits.Free(l[:2], 4); return x },
		func() []int { x, _ := bits.Mul(l, 4, inverse, 4); return x },
		func() []int { x, _ := bits.Transpose(l, 4); return x },
		func() []int { x, _ := bits.Invert(inverse, 4); return x },
		func() []int { x, _ := bits.Identity(4); return x },
		func() []int { x, _ := bits.Weights(l, 4); return x },
	} {
		first := do()
		kept := slices.Clone(first)
		for k := range first {
			first[k] = -77
		}
		first = append(first, -77)
		if again := do(); len(kept) == 0 || !slices.Equal(again, kept) {
			t.Error(i, kept, again)
		}
	}
	for _, do := range calls() {
		do(l, 4)
		do(inverse, 4)
	}
	if !slices.Equal(l, rows(3, 5, 6, 8)) || !slices.Equal(inverse, rows(1, 3, 6, 12)) {
		t.Error(l, inverse)
	}
}

// Whatever comes in, the calls end, and with an error all else is zero.
func TestAnyArguments(t *testing.T) {
	ints := []int{math.MinInt, -65536, -1, 0, 1, 2, 3, 15, 16, 17, 24, 25, 62, 63, 64, 65535, 65536, 1 << 24, math.MaxInt}
	d := draws(13)
	any := func() int {
		if d.below(2) == 0 {
			return d.below(16)
		}
		return ints[d.below(len(ints))]
	}
	many := func() []int {
		l := d.rowsOfAll(d.below(bits.MaxRows+3), 4)
		if len(l) > 0 && d.below(2) == 0 {
			l[d.below(len(l))] = any()
		}
		return l
	}
	for range 20000 {
		l, b, n, m, arg := many(), many(), any(), any(), any()
		all := calls()
		all["Member"] = func(l []int, n int) (bool, api.Errno) { x, e := bits.Member(l, n, arg); return !x, e }
		all["Same"] = func(l []int, n int) (bool, api.Errno) { x, e := bits.Same(l, b, n); return !x, e }
		all["Meet"] = list(func(l []int, n int) ([]int, api.Errno) { return bits.Meet(l, b, n) })
		all["Mul"] = list(func(l []int, n int) ([]int, api.Errno) { return bits.Mul(l, n, b, m) })
		all["Which"], all["Solve"], all["Apply"] = number(bits.Which, arg), number(bits.Solve, arg), number(bits.Apply, arg)
		if d.below(20) == 0 {
			all["Coset"] = number(bits.Coset, arg)
		}
		all["Identity"] = func([]int, int) (bool, api.Errno) { x, e := bits.Identity(arg); return len(x) == 0, e }
		all["Weight"] = func([]int, int) (bool, api.Errno) { x, e := bits.Weight(arg); return x == 0, e }
		for name, do := range all {
			zero, e := do(l, n)
			if e != api.OK && !zero || e < api.OK || e > api.ErrOrder {
				t.Fatal(name, l, b, n, m, arg, zero, e)
			}
		}
	}
}
