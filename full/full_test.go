package full_test

import (
	"math"
	"slices"
	"testing"

	"spoondrift/api"
	"spoondrift/circ"
	"spoondrift/full"
	"spoondrift/matrix"
	"spoondrift/ring"
	"spoondrift/text"
)

const most = api.MaxCoef

func num(a, b, c, d, k int) api.Num { return api.Num{A: a, B: b, C: c, D: d, K: k} }

// ints is a state of integers.
func ints(l ...int) []api.Num {
	var v []api.Num
	for _, a := range l {
		v = append(v, api.Num{A: a})
	}
	return v
}

// on makes a gate, when one with an If, look a Measure; of makes a circuit.
func on(kind int, wires ...int) api.Gate { return api.Gate{Kind: kind, Wires: wires} }

func when(n, kind int, wires ...int) api.Gate { return api.Gate{Kind: kind, Wires: wires, If: n} }

func look(wire, bit int) api.Gate { return api.Gate{Kind: api.Measure, Wires: []int{wire}, Bit: bit} }

func of(wires, bits int, l ...api.Gate) api.Circuit {
	return api.Circuit{Wires: wires, Bits: bits, Gates: l}
}

// resets is a circuit of n Resets of wire 0.
func resets(wires, n int) api.Circuit {
	return of(wires, 0, slices.Repeat([]api.Gate{on(api.Reset, 0)}, n)...)
}

var (
	zero    = api.Num{}
	root    = num(1, 0, 0, 0, 1)  // 1/r
	half    = num(1, 0, 0, 0, 2)  // 1/2
	lowest  = num(1, 0, 0, 0, 60) // 1 over the greatest power of r
	tooHigh = num(0, 0, 0, 0, 61)
	large   = num(0, 0, most+1, 0, 0)
	big     = num(0, most, 0, -most, 0) // r times the greatest coefficient
	high    = num(1<<14, 0, 0, 0, 0)    // its norm is 2^28
	three   = num(1, 1, 0, 1, 2)        // its norm is 3/4
)

// bell is the state of the first example.
func bell() []api.Num { return []api.Num{root, zero, zero, root} }

// ofText returns a circuit from its text.
func ofText(t *testing.T, s string) api.Circuit {
	t.Helper()
	c, at, e := text.Parse(s)
	if e != api.OK {
		t.Fatal(at, e)
	}
	return c
}

// call is a function of a state, or of a circuit, with its other arguments; it tells whether the results are zero, too.
type call[A any] func(A) (bool, api.Errno)

func isZero(x api.Num, e api.Errno) (bool, api.Errno) { return x == api.Num{}, e }

func isEmpty[E any](l []E, e api.Errno) (bool, api.Errno) { return len(l) == 0, e }

func isNone(k int, e api.Errno) (bool, api.Errno) { return k == 0, e }

func noBranch(b full.Branch, e api.Errno) (bool, api.Errno) {
	return len(b.Outcomes) == 0 && b.Bits == 0 && len(b.State) == 0, e
}

// ofStates are all functions that have a state, with other arguments that would be an error, too, if they have some.
func ofStates() map[string]call[[]api.Num] {
	crowd := resets(12, 9)
	return map[string]call[[]api.Num]{
		"Check":   func(v []api.Num) (bool, api.Errno) { return true, full.Check(v) },
		"Wires":   func(v []api.Num) (bool, api.Errno) { return isNone(full.Wires(v)) },
		"Norm":    func(v []api.Num) (bool, api.Errno) { return isZero(full.Norm(v)) },
		"Phase":   func(v []api.Num) (bool, api.Errno) { return isNone(full.Phase(v, []api.Num{tooHigh, large, zero})) },
		"Phase u": func(v []api.Num) (bool, api.Errno) { return isNone(full.Phase(ints(1, 2), v)) },
		"Apply":   func(v []api.Num) (bool, api.Errno) { return isEmpty(full.Apply(v, on(99, -1, -1))) },
		"Find":    func(v []api.Num) (bool, api.Errno) { return isEmpty(full.Find(v, -1, 9)) },
		"Odds":    func(v []api.Num) (bool, api.Errno) { return isZero(full.Odds(v, 99)) },
		"Run":     func(v []api.Num) (bool, api.Errno) { return isEmpty(full.Run(crowd, v)) },
		"Along":   func(v []api.Num) (bool, api.Errno) { return noBranch(full.Along(crowd, v, []int{7})) },
		"Bits":    func(v []api.Num) (bool, api.Errno) { return isEmpty(full.Bits(crowd, v)) },
	}
}

// ofCircuits are all functions that have a circuit, likewise.
func ofCircuits() map[string]call[api.Circuit] {
	bad, other := of(0, 99, on(99)), of(9, 1, look(0, 0))
	return map[string]call[api.Circuit]{
		"Run":       func(c api.Circuit) (bool, api.Errno) { return isEmpty(full.Run(c, []api.Num{tooHigh})) },
		"Along":     func(c api.Circuit) (bool, api.Errno) { return noBranch(full.Along(c, nil, []int{7})) },
		"Bits":      func(c api.Circuit) (bool, api.Errno) { return isEmpty(full.Bits(c, ints(1, 2, 3))) },
		"Matrix":    func(c api.Circuit) (bool, api.Errno) { return isEmpty(full.Matrix(c)) },
		"Amplitude": func(c api.Circuit) (bool, api.Errno) { return isZero(full.Amplitude(c, -1, 99)) },
		"Equal":     func(c api.Circuit) (bool, api.Errno) { return isNone(full.Equal(c, bad)) },
		"Equal d":   func(c api.Circuit) (bool, api.Errno) { return isNone(full.Equal(other, c)) },
	}
}

// P6.1

func TestErrorsOfCheck(t *testing.T) {
	for i, c := range []struct {
		v []api.Num
		e api.Errno
	}{
		{nil, api.ErrMany}, {[]api.Num{}, api.ErrMany}, {ints(1, 2, 3), api.ErrMany}, {make([]api.Num, 65), api.ErrMany}, {make([]api.Num, 128), api.ErrMany}, {make([]api.Num, 1<<20), api.ErrMany},
		// how many there are is asked before what they are
		{[]api.Num{tooHigh, zero, zero}, api.ErrMany}, {append(make([]api.Num, 64), large), api.ErrMany},
		{[]api.Num{tooHigh}, api.ErrRange}, {[]api.Num{num(0, 0, 0, 0, -1)}, api.ErrRange}, {[]api.Num{large}, api.ErrLarge}, {[]api.Num{num(0, 0, 0, -most-1, 60)}, api.ErrLarge},
		{[]api.Num{num(most+1, 0, 0, 0, 61)}, api.ErrRange}, {[]api.Num{num(math.MinInt, 0, 0, 0, 0)}, api.ErrLarge}, {[]api.Num{num(0, math.MaxInt, 0, 0, 0)}, api.ErrLarge}, {[]api.Num{num(0, 0, 0, 0, math.MinInt)}, api.ErrRange},
		// the first number decides
		{[]api.Num{zero, large, tooHigh, zero}, api.ErrLarge}, {[]api.Num{zero, tooHigh, large, zero}, api.ErrRange}, {append(make([]api.Num, 62), large, tooHigh), api.ErrLarge}, {append(make([]api.Num, 63), tooHigh), api.ErrRange},
	} {
		for name, do := range ofStates() {
			if zero, e := do(c.v); !zero || e != c.e {
				t.Error(i, name, zero, e)
			}
		}
	}
	// Phase asks its first state first
	if _, e := full.Phase([]api.Num{large}, nil); e != api.ErrLarge {
		t.Error(e)
	}
	if _, e := full.Phase(nil, []api.Num{large}); e != api.ErrMany {
		t.Error(e)
	}
}

func TestHowManyAmplitudes(t *testing.T) {
	lengths := map[int]int{1: 0, 2: 1, 4: 2, 8: 3, 16: 4, 32: 5, 64: 6}
	for length := range 300 {
		want, ok := lengths[length]
		v := make([]api.Num, length)
		for i := range v {
			v[i] = num(most, -most, most, -most, 60)
		}
		e := full.Check(v)
		n, f := full.Wires(v)
		if ok && (e != api.OK || f != api.OK || n != want) || !ok && (e != api.ErrMany || f != api.ErrMany || n != 0) {
			t.Error(length, e, n, f)
		}
	}
}

func TestBasis(t *testing.T) {
	for n := -3; n < 10; n++ {
		for k := -3; k < 140; k++ {
			v, e := full.Basis(n, k)
			if n < 0 || n > 6 || k < 0 || k > 1<<n-1 {
				if len(v) != 0 || e != api.ErrRange {
					t.Error(n, k, v, e)
				}
				continue
			}
			want := make([]api.Num, 1<<n)
			want[k].A = 1
			if !slices.Equal(v, want) || e != api.OK {
				t.Error(n, k, v, e)
			}
		}
	}
	for _, c := range [][2]int{{math.MinInt, 0}, {math.MaxInt, 0}, {64, 0}, {6, math.MaxInt}, {6, math.MinInt}, {math.MaxInt, math.MaxInt}} {
		if v, e := full.Basis(c[0], c[1]); len(v) != 0 || e != api.ErrRange {
			t.Error(c, v, e)
		}
	}
}

func TestNorm(t *testing.T) {
	d := draws(1)
	for range 1000 {
		v := d.state(d.below(7), 40, 8)
		want, f := modelNorm(v)
		if x, e := full.Norm(d.written(v)); x != want || e != f || e != api.OK {
			t.Fatal(v, x, e, want, f)
		}
	}
	for i, c := range []struct {
		v    []api.Num
		want api.Num
		e    api.Errno
	}{
		{ints(0), zero, api.OK}, {ints(3, 4), num(25, 0, 0, 0, 0), api.OK}, {bell(), num(1, 0, 0, 0, 0), api.OK}, {[]api.Num{num(1, 1, 0, 0, 0)}, num(2, 1, 0, -1, 0), api.OK}, {ints(0, 0, 0, -2), num(4, 0, 0, 0, 0), api.OK},
		// a norm, and a sum, at the limit and above it
		{ints(1<<15, 0), num(most, 0, 0, 0, 0), api.OK}, {ints(1<<15, 1), zero, api.ErrLarge}, {ints(1<<15+1, 0), zero, api.ErrLarge}, {ints(most), zero, api.ErrLarge}, {ints(0, 0, 0, most), zero, api.ErrLarge},
		{[]api.Num{num(1, 0, 0, 0, 30)}, lowest, api.OK}, {[]api.Num{num(1, 0, 0, 0, 31)}, zero, api.ErrLarge}, {[]api.Num{num(1, 0, 0, 0, 31), num(1, 0, 0, 0, 31)}, zero, api.ErrLarge},
		// taken from the left to the right, as soon as something is too large: 2^28 + 1/4 is, 2^28 + 1 is not
		{[]api.Num{half, three, high, zero}, num(1<<28+1, 0, 0, 0, 0), api.OK}, {[]api.Num{half, high, three, zero}, zero, api.ErrLarge}, {[]api.Num{high, half, three, zero}, zero, api.ErrLarge}, {[]api.Num{three, zero, half, high}, num(1<<28+1, 0, 0, 0, 0), api.OK},
	} {
		if x, e := full.Norm(c.v); x != c.want || e != c.e {
			t.Error(i, x, e)
		}
	}
}

func TestPhase(t *testing.T) {
	d := draws(2)
	for range 2000 {
		u := d.state(d.below(5), 3, 4)
		turn := d.below(8)
		v := make([]api.Num, len(u))
		for i, x := range u {
			v[i], _ = ring.Mul(ring.Omega(turn), x)
		}
		if d.below(3) == 0 {
			v[d.below(len(v))] = d.num(2, 1)
		}
		want, f := 0, api.ErrNone
		for k := 7; k >= 0; k-- {
			same := true
			for i, x := range u {
				turned, _ := ring.Mul(ring.Omega(k), x)
				same = same && turned == leastOf(v)[i]
			}
			if same {
				want, f = k, api.OK
			}
		}
		if k, e := full.Phase(d.written(v), d.written(u)); k != want || e != f {
			t.Fatal(v, u, k, e, want, f)
		}
	}
	great := num(most, -most, most, -most, 0)
	for i, c := range []struct {
		v, u []api.Num
		k    int
		e    api.Errno
	}{
		{ints(0, 0), ints(0, 0), 0, api.OK}, {ints(0), ints(1), 0, api.ErrNone}, {ints(1), ints(0), 0, api.ErrNone}, {ints(1, 0), ints(0, 1), 0, api.ErrNone}, {ints(1, 1), ints(1, -1), 0, api.ErrNone}, {ints(2), ints(1), 0, api.ErrNone}, {ints(1, 2), ints(1), 0, api.ErrClash}, {ints(0), ints(0, 0), 0, api.ErrClash}, {make([]api.Num, 64), make([]api.Num, 32), 0, api.ErrClash},
		{[]api.Num{num(2, 0, 0, 0, 2)}, ints(-1), 4, api.OK}, {[]api.Num{num(0, 0, 0, 1, 0), zero}, ints(1, 0), 3, api.OK}, {ints(1, 0), []api.Num{num(0, 0, 0, 1, 0), zero}, 5, api.OK},
		{[]api.Num{great, great}, []api.Num{great, great}, 0, api.OK}, {[]api.Num{num(most, most, -most, most, 0)}, []api.Num{great}, 1, api.OK}, {[]api.Num{num(most, 0, 0, 0, 60)}, []api.Num{num(0, 0, -most, 0, 60)}, 2, api.OK},
	} {
		if k, e := full.Phase(c.v, c.u); k != c.k || e != c.e {
			t.Error(i, k, e)
		}
	}
}

// P6.2

// wireLists are all rows of k different wires of n.
func wireLists(k, n int) [][]int {
	l := [][]int{nil}
	for range k {
		var longer [][]int
		for _, row := range l {
			for wire := range n {
				if !slices.Contains(row, wire) {
					longer = append(longer, append(slices.Clone(row), wire))
				}
			}
		}
		l = longer
	}
	return l
}

func TestApply(t *testing.T) {
	d := draws(3)
	for _, kind := range plainKinds() {
		for n := modelArity(kind); n <= 6; n++ {
			for _, wires := range wireLists(modelArity(kind), n) {
				v := d.state(n, 20, 6)
				want, f := modelApply(v, kind, wires)
				// Bit and If are not looked at
				u, e := full.Apply(d.written(v), api.Gate{Kind: kind, Wires: wires, Bit: d.below(9) - 4, If: d.below(9) - 4})
				if !slices.Equal(u, want) || e != api.OK || f != api.OK {
					t.Fatal(kind, wires, v, u, e, want, f)
				}
			}
		}
	}
}

func TestApplyIsTheOperatorOnItsWires(t *testing.T) {
	d := draws(4)
	for range 300 {
		n := 1 + d.below(6)
		g := d.gate(n, 0, plainKinds())
		v := d.state(n, 20, 6)
		m, _ := matrix.Of(g.Kind)
		m, _ = matrix.On(m, g.Wires, n)
		want, f := matrix.Apply(m, v)
		if u, e := full.Apply(v, g); !slices.Equal(u, want) || e != api.OK || f != api.OK {
			t.Fatal(g, v, u, e, want, f)
		}
	}
}

func TestErrorsOfApply(t *testing.T) {
	low, high := math.MinInt, math.MaxInt
	for i, c := range []struct {
		v []api.Num
		g api.Gate
		e api.Errno
	}{
		{ints(1, 0), on(0, 0), api.ErrRange}, {ints(1, 0), on(api.Measure, 0), api.ErrRange}, {ints(1, 0), on(api.Reset, 0), api.ErrRange}, {ints(1, 0), on(15, 0), api.ErrRange}, {ints(1, 0), on(-1, 0), api.ErrRange}, {ints(1, 0), on(low), api.ErrRange}, {ints(1, 0), on(high, 3, 3), api.ErrRange}, {ints(1, 0), on(api.Measure, 5, 5), api.ErrRange},
		{ints(1, 0), on(api.X), api.ErrMany}, {ints(1, 0, 0, 0), on(api.X, 0, 1), api.ErrMany}, {ints(1, 0, 0, 0), on(api.CX, 0), api.ErrMany}, {ints(1, 0), on(api.CZ, 7, 7, 7), api.ErrMany}, {ints(1, 0), on(api.CCX, 7, 7), api.ErrMany}, {ints(1, 0), on(api.CCX, 0, 0, 0, 0), api.ErrMany}, {[]api.Num{big, big}, on(api.H), api.ErrMany}, {ints(1, 0), api.Gate{Kind: api.T, Wires: make([]int, 100000)}, api.ErrMany},
		{ints(1), on(api.X, 0), api.ErrNot}, {ints(1, 0), on(api.X, 1), api.ErrNot}, {ints(1, 0), on(api.X, -1), api.ErrNot}, {ints(1, 0), on(api.H, low), api.ErrNot}, {ints(1, 0), on(api.H, high), api.ErrNot}, {ints(1, 0), on(api.H, 64), api.ErrNot}, {ints(1, 0), on(api.CX, 1, 1), api.ErrNot}, {ints(1, 0, 0, 0), on(api.CCX, 1, 1, 2), api.ErrNot}, {ints(1, 0, 0, 0), on(api.Swap, -1, -1), api.ErrNot}, {make([]api.Num, 64), on(api.Swap, 0, 6), api.ErrNot},
		{ints(1, 0, 0, 0), on(api.CX, 1, 1), api.ErrTwice}, {ints(1, 0), on(api.CX, 0, 0), api.ErrTwice}, {make([]api.Num, 8), on(api.CCX, 2, 1, 2), api.ErrTwice}, {make([]api.Num, 8), on(api.CCX, 0, 1, 1), api.ErrTwice}, {make([]api.Num, 8), on(api.CCX, 2, 2, 1), api.ErrTwice}, {[]api.Num{big, big, big, big}, on(api.Swap, 0, 0), api.ErrTwice},
		// a product, and a sum, that is too large
		{[]api.Num{lowest, zero}, on(api.H, 0), api.ErrLarge}, {[]api.Num{zero, lowest}, on(api.H, 0), api.ErrLarge}, {[]api.Num{lowest, lowest}, on(api.H, 0), api.ErrLarge}, {[]api.Num{big, big}, on(api.H, 0), api.ErrLarge}, {[]api.Num{big, num(0, -most, 0, most, 0)}, on(api.H, 0), api.ErrLarge}, {[]api.Num{zero, big, zero, big}, on(api.H, 1), api.ErrLarge}, {append(make([]api.Num, 63), lowest), on(api.H, 5), api.ErrLarge},
	} {
		if v, e := full.Apply(c.v, c.g); len(v) != 0 || e != c.e {
			t.Error(i, v, e)
		}
	}
}

func TestApplyAtTheLimits(t *testing.T) {
	// in least form, as most - 1 is odd
	great, turned := num(most, most-1, -most, 0, 60), num(0, most, most-1, -most, 60)
	for i, c := range []struct {
		v    []api.Num
		g    api.Gate
		want []api.Num
	}{
		// products whose factor in the operator is 0 are not taken, and those with 1, i and w are never too large
		{[]api.Num{lowest, zero}, on(api.X, 0), []api.Num{zero, lowest}}, {[]api.Num{lowest, lowest}, on(api.S, 0), []api.Num{lowest, num(0, 0, 1, 0, 60)}}, {[]api.Num{great, great}, on(api.T, 0), []api.Num{great, turned}}, {[]api.Num{zero, great, zero, zero}, on(api.CX, 0, 1), []api.Num{zero, zero, zero, great}},
		{[]api.Num{num(1, 0, 0, 0, 59), zero}, on(api.H, 0), []api.Num{lowest, lowest}}, {[]api.Num{zero, zero}, on(api.H, 0), []api.Num{zero, zero}}, {ints(most, most), on(api.H, 0), []api.Num{big, zero}}, {ints(most, -most), on(api.H, 0), []api.Num{zero, big}}, {[]api.Num{big, zero}, on(api.H, 0), ints(most, most)}, {[]api.Num{lowest, zero, zero, zero}, on(api.Swap, 0, 1), []api.Num{lowest, zero, zero, zero}},
		{[]api.Num{num(2, 0, 0, 0, 2), zero}, on(api.Z, 0), ints(1, 0)}, {[]api.Num{num(0, 0, 0, 0, 60), num(4, 0, 0, 0, 4)}, on(api.Y, 0), []api.Num{num(0, 0, -1, 0, 0), zero}},
	} {
		if v, e := full.Apply(c.v, c.g); !slices.Equal(v, c.want) || e != api.OK {
			t.Error(i, v, e)
		}
	}
}

func TestFindAndOdds(t *testing.T) {
	d := draws(5)
	for range 600 {
		n := 1 + d.below(6)
		v := d.state(n, 20, 6)
		wire, outcome := d.below(n), d.below(2)
		u, e := full.Find(d.written(v), wire, outcome)
		if !slices.Equal(u, modelFind(v, wire, outcome)) || e != api.OK {
			t.Fatal(v, wire, outcome, u, e)
		}
		want, f := modelNorm(modelFind(v, wire, 1))
		if x, e := full.Odds(d.written(v), wire); x != want || e != f || e != api.OK {
			t.Fatal(v, wire, x, e, want, f)
		}
	}
}

func TestErrorsOfFindAndOdds(t *testing.T) {
	low, top := math.MinInt, math.MaxInt
	for i, c := range []struct {
		v             []api.Num
		wire, outcome int
		want          []api.Num
		odds          api.Num
		e, f          api.Errno
	}{
		{bell(), 0, 0, []api.Num{root, zero, zero, zero}, half, api.OK, api.OK}, {bell(), 1, 1, []api.Num{zero, zero, zero, root}, half, api.OK, api.OK},
		{bell(), 2, 0, nil, zero, api.ErrNot, api.ErrNot}, {bell(), -1, 2, nil, zero, api.ErrNot, api.ErrNot}, {bell(), low, -1, nil, zero, api.ErrNot, api.ErrNot}, {bell(), top, 0, nil, zero, api.ErrNot, api.ErrNot}, {ints(1), 0, 0, nil, zero, api.ErrNot, api.ErrNot}, {make([]api.Num, 64), 6, 0, nil, zero, api.ErrNot, api.ErrNot}, {ints(0, most), 1, 0, nil, zero, api.ErrNot, api.ErrNot},
		{bell(), 0, 2, nil, half, api.ErrRange, api.OK}, {bell(), 0, -1, nil, half, api.ErrRange, api.OK}, {bell(), 1, top, nil, half, api.ErrRange, api.OK}, {bell(), 1, low, nil, half, api.ErrRange, api.OK}, {ints(0, most), 0, 2, nil, zero, api.ErrRange, api.ErrLarge},
		// finding makes no number larger; only what is found counts for the odds
		{ints(0, most), 0, 1, ints(0, most), zero, api.OK, api.ErrLarge}, {ints(most, 3), 0, 0, ints(most, 0), num(9, 0, 0, 0, 0), api.OK, api.OK}, {ints(0, 1<<15, 0, 1), 0, 1, ints(0, 1<<15, 0, 1), zero, api.OK, api.ErrLarge}, {ints(0, 0), 0, 1, ints(0, 0), zero, api.OK, api.OK},
	} {
		v, e := full.Find(c.v, c.wire, c.outcome)
		x, f := full.Odds(c.v, c.wire)
		if !slices.Equal(v, c.want) || e != c.e || x != c.odds || f != c.f {
			t.Error(i, v, e, x, f)
		}
	}
}

// P6.3

func TestExamplesOfRuns(t *testing.T) {
	h := on(api.H, 0)
	left := []api.Num{root, zero}
	for i, x := range []struct {
		c    api.Circuit
		v    []api.Num
		want []full.Branch
		bits []api.Num
	}{
		{of(2, 2, h, on(api.CX, 0, 1), look(0, 0), look(1, 1)), ints(1, 0, 0, 0), []full.Branch{{[]int{0, 0}, 0, []api.Num{root, zero, zero, zero}}, {[]int{1, 1}, 3, []api.Num{zero, zero, zero, root}}}, []api.Num{half, zero, zero, half}},
		{of(1, 0, h, on(api.Reset, 0)), ints(1, 0), []full.Branch{{[]int{0}, 0, left}, {[]int{1}, 0, left}}, ints(1)},
		{of(1, 1, h, look(0, 0), when(1, api.X, 0)), ints(1, 0), []full.Branch{{[]int{0}, 0, left}, {[]int{1}, 1, left}}, []api.Num{half, half}},
		{ofText(t, "wires 2 bits 1; h 0; cx 0 1; measure 1 0; if 0: x 0;"), ints(1, 0, 0, 0), []full.Branch{{[]int{0}, 0, []api.Num{root, zero, zero, zero}}, {[]int{1}, 1, []api.Num{zero, zero, root, zero}}}, []api.Num{half, half}},
		// without outcomes there is one branch, and none of a state of 0
		{of(1, 2), []api.Num{num(2, 0, 0, 0, 2), zero}, []full.Branch{{nil, 0, ints(1, 0)}}, ints(1, 0, 0, 0)}, {of(1, 0, h), ints(0, 0), nil, ints(0)}, {of(1, 1, look(0, 0)), ints(0, 0), nil, ints(0, 0)},
		// a bit is written again; a gate before its Measure is left out
		{of(1, 1, when(1, api.X, 0), look(0, 0), on(api.X, 0), look(0, 0), when(1, api.X, 0)), ints(0, 3), []full.Branch{{[]int{1, 0}, 0, ints(3, 0)}}, ints(9, 0)},
		{of(1, 8, on(api.X, 0), look(0, 7), when(7, api.Y, 0), when(8, api.Z, 0)), ints(2, 0), []full.Branch{{[]int{1}, 128, ints(0, -2)}}, append(make([]api.Num, 128), append(ints(4), make([]api.Num, 127)...)...)},
		// a Reset writes no bit, and makes the wire 0
		{of(1, 1, look(0, 0), on(api.Reset, 0), look(0, 0)), ints(0, 1), []full.Branch{{[]int{1, 1, 0}, 0, ints(1, 0)}}, ints(1, 0)},
	} {
		l, e := full.Run(x.c, x.v)
		if !slices.EqualFunc(l, x.want, sameBranch) || e != api.OK {
			t.Error(i, l, e)
		}
		if b, e := full.Bits(x.c, x.v); !slices.Equal(b, x.bits) || e != api.OK {
			t.Error(i, b, e)
		}
	}
}

func TestRunsAsTheModel(t *testing.T) {
	d := draws(6)
	found := map[int]int{}
	for range 500 {
		wires, bits := 1+d.below(5), d.below(4)
		c := few(d.circuit(wires, bits, d.below(30), anyKinds()), 5)
		v := d.state(wires, 3, 3)
		if d.below(2) == 0 {
			v, _ = full.Basis(wires, d.below(1<<wires))
		}
		want, f := modelRun(c, v)
		l, e := full.Run(c, d.written(v))
		if !slices.EqualFunc(l, want, sameBranch) || e != f || e != api.OK {
			t.Fatal(c, v, l, e, want, f)
		}
		sums, f := modelBits(c, v)
		if b, e := full.Bits(c, d.written(v)); !slices.Equal(b, sums) || e != f || e != api.OK {
			t.Fatal(c, v, b, e, sums, f)
		}
		for _, outcomes := range rowsOfOutcomes(modelFindings(c)) {
			want, _ := modelAlong(c, v, outcomes)
			f := api.OK
			if dead(want.State) {
				want, f = full.Branch{}, api.ErrNone
			}
			if b, e := full.Along(c, d.written(v), outcomes); !sameBranch(b, want) || e != f {
				t.Fatal(c, v, outcomes, b, e, want, f)
			}
		}
		found[len(l)]++
	}
	for _, n := range []int{0, 1, 2, 4, 8, 16} {
		if found[n] < 3 {
			t.Error(n, found)
		}
	}
}

func TestMostOutcomes(t *testing.T) {
	d := draws(7)
	c := of(6, 8)
	for k := range 8 {
		c.Gates = append(c.Gates, on(api.H, k%6), look(k%6, k), when(k+1, api.X, (k+1)%6))
	}
	v, _ := full.Basis(6, d.below(64))
	want, _ := modelRun(c, v)
	if l, e := full.Run(c, v); len(l) != 256 || !slices.EqualFunc(l, want, sameBranch) || e != api.OK {
		t.Error(len(l), e)
	}
	sums, _ := modelBits(c, v)
	if b, e := full.Bits(c, v); len(b) != 256 || !slices.Equal(b, sums) || e != api.OK {
		t.Error(len(b), e)
	}
	last := want[255]
	if b, e := full.Along(c, v, last.Outcomes); !sameBranch(b, last) || e != api.OK || b.Bits != 255 {
		t.Error(b, e)
	}
	c.Gates = append(c.Gates, on(api.Reset, 0))
	if l, e := full.Run(c, v); len(l) != 0 || e != api.ErrMany {
		t.Error(len(l), e)
	}
	if b, e := full.Bits(c, v); len(b) != 0 || e != api.ErrMany {
		t.Error(len(b), e)
	}
	if b, e := full.Along(c, v, append(last.Outcomes, 0)); !sameBranch(b, full.Branch{}) || e != api.ErrMany {
		t.Error(b, e)
	}
}

func TestErrorsOfCircuits(t *testing.T) {
	for i, x := range []struct {
		c api.Circuit
		e api.Errno
	}{
		{api.Circuit{}, api.ErrRange}, {of(13, 0), api.ErrRange}, {of(math.MinInt, 0), api.ErrRange}, {of(1, 9), api.ErrRange}, {of(1, -1), api.ErrRange}, {resets(1, 121), api.ErrMany}, {of(1, 0, make([]api.Gate, 100000)...), api.ErrMany}, {of(1, 0, on(15, 0)), api.ErrRange}, {of(1, 0, on(api.H)), api.ErrMany}, {of(1, 0, on(api.H, 1)), api.ErrNot}, {of(2, 0, on(api.CX, 1, 1)), api.ErrTwice}, {of(1, 0, look(0, 0)), api.ErrNot}, {of(1, 1, when(2, api.H, 0)), api.ErrNot}, {of(1, 1, when(1, api.Measure, 0)), api.ErrClash}, {of(1, 1, when(1, api.Reset, 0)), api.ErrClash}, {of(1, 1, api.Gate{Kind: api.X, Wires: []int{0}, Bit: 1}), api.ErrClash},
		{of(1, 0, slices.Concat(resets(1, 20).Gates, []api.Gate{on(api.H, 3)})...), api.ErrNot}, {of(12, 0, on(api.H, 12)), api.ErrNot},
	} {
		for name, do := range ofCircuits() {
			if zero, e := do(x.c); !zero || e != x.e {
				t.Error(i, name, zero, e)
			}
		}
	}
	if _, e := full.Equal(of(1, 0, on(api.H)), of(13, 0)); e != api.ErrMany {
		t.Error(e)
	}
}

func TestErrorsOfRuns(t *testing.T) {
	for i, x := range []struct {
		c        api.Circuit
		v        []api.Num
		outcomes []int
		e, f     api.Errno // of Run and Bits, and of Along
	}{
		{of(2, 0), ints(1, 0), []int{2}, api.ErrClash, api.ErrClash}, {of(1, 0), ints(1), nil, api.ErrClash, api.ErrClash}, {of(7, 0), make([]api.Num, 64), nil, api.ErrClash, api.ErrClash}, {of(12, 0), make([]api.Num, 64), nil, api.ErrClash, api.ErrClash}, {of(5, 0), make([]api.Num, 64), nil, api.ErrClash, api.ErrClash}, {resets(2, 9), ints(1, 0), make([]int, 9), api.ErrClash, api.ErrClash},
		{resets(1, 9), ints(1, 0), make([]int, 9), api.ErrMany, api.ErrMany}, {resets(1, 9), ints(1, 0), []int{2}, api.ErrMany, api.ErrMany}, {resets(1, 120), ints(0, 0), nil, api.ErrMany, api.ErrMany},
		// Along has as many outcomes as the circuit, each 0 or 1
		{resets(1, 1), ints(1, 0), nil, api.OK, api.ErrMany}, {resets(1, 1), ints(1, 0), []int{0, 0}, api.OK, api.ErrMany}, {resets(1, 1), ints(1, 0), []int{2, -1}, api.OK, api.ErrMany}, {of(1, 0), ints(1, 0), []int{0}, api.OK, api.ErrMany}, {of(1, 0), ints(1, 0), make([]int, 100000), api.OK, api.ErrMany},
		{resets(1, 1), ints(1, 0), []int{2}, api.OK, api.ErrRange}, {resets(1, 2), ints(1, 0), []int{1, -1}, api.OK, api.ErrRange}, {resets(1, 2), ints(1, 0), []int{math.MinInt, math.MaxInt}, api.OK, api.ErrRange}, {of(1, 1, on(api.H, 0), look(0, 0)), []api.Num{big, big}, []int{2}, api.ErrLarge, api.ErrRange},
		// dead in the end
		{resets(1, 1), ints(1, 0), []int{1}, api.OK, api.ErrNone}, {of(1, 1, look(0, 0), on(api.H, 0)), ints(1, 0), []int{1}, api.OK, api.ErrNone}, {of(1, 0), ints(0, 0), nil, api.OK, api.ErrNone}, {resets(1, 2), ints(0, 1), []int{1, 1}, api.OK, api.ErrNone},
	} {
		l, e := full.Run(x.c, x.v)
		if e != x.e || e != api.OK && len(l) != 0 {
			t.Error(i, l, e)
		}
		b, e := full.Bits(x.c, x.v)
		if e != x.e || e != api.OK && len(b) != 0 {
			t.Error(i, b, e)
		}
		if b, e := full.Along(x.c, x.v, x.outcomes); !sameBranch(b, full.Branch{}) || e != x.f {
			t.Error(i, b, e)
		}
	}
}

func TestRunsTooLarge(t *testing.T) {
	h := on(api.H, 1)
	for i, x := range []struct {
		c         api.Circuit
		v         []api.Num
		outcomes  []int
		run, bits api.Errno
		along     api.Errno
	}{
		// too large before anything is found, even if nothing is left in the end
		{of(2, 1, h, look(0, 0)), []api.Num{big, zero, big, zero}, []int{1}, api.ErrLarge, api.ErrLarge, api.ErrLarge},
		// too large on one branch alone, the second one or the first one
		{of(2, 1, look(0, 0), h), []api.Num{root, big, zero, big}, []int{0}, api.ErrLarge, api.ErrLarge, api.OK}, {of(2, 1, look(0, 0), h), []api.Num{root, big, zero, big}, []int{1}, api.ErrLarge, api.ErrLarge, api.ErrLarge}, {of(2, 1, look(0, 0), h), []api.Num{big, root, big, zero}, []int{0}, api.ErrLarge, api.ErrLarge, api.ErrLarge}, {of(2, 1, look(0, 0), h), []api.Num{big, root, big, zero}, []int{1}, api.ErrLarge, api.ErrLarge, api.OK},
		{of(2, 1, look(0, 0), when(1, api.H, 1)), []api.Num{big, root, big, zero}, []int{0}, api.OK, api.ErrLarge, api.OK},
		// dead branches do not go on
		{of(2, 1, look(0, 0), look(0, 0), on(api.X, 0), look(0, 0), h), []api.Num{zero, root, zero, root}, []int{0, 0, 1}, api.OK, api.OK, api.ErrNone},
		// only Bits asks for norms
		{of(1, 1, look(0, 0)), ints(1, most), []int{1}, api.OK, api.ErrLarge, api.OK}, {of(1, 1, look(0, 0)), ints(most, 1), []int{1}, api.OK, api.ErrLarge, api.OK}, {of(1, 0), ints(most, 1), nil, api.OK, api.ErrLarge, api.OK},
		// each norm is right; their sum is not, unless they go to different bits
		{of(1, 0, on(api.Reset, 0)), ints(1<<15, 1<<15), []int{1}, api.OK, api.ErrLarge, api.OK}, {of(1, 1, look(0, 0)), ints(1<<15, 1<<15), []int{1}, api.OK, api.OK, api.OK},
		// norms are added in the order of the branches: 2^28 + 1/4 is too large, 2^28 + 1 is not
		{of(2, 0, on(api.Reset, 0), on(api.Reset, 1)), []api.Num{half, high, three, zero}, []int{0, 1}, api.OK, api.OK, api.OK}, {of(2, 0, on(api.Reset, 1), on(api.Reset, 0)), []api.Num{half, high, three, zero}, []int{0, 1}, api.OK, api.ErrLarge, api.OK},
	} {
		l, e := full.Run(x.c, x.v)
		want, f := modelRun(x.c, x.v)
		if e != x.run || f != x.run || !slices.EqualFunc(l, want, sameBranch) {
			t.Error(i, l, e, want, f)
		}
		b, e := full.Bits(x.c, x.v)
		sums, f := modelBits(x.c, x.v)
		if e != x.bits || f != x.bits || !slices.Equal(b, sums) {
			t.Error(i, b, e, sums, f)
		}
		if b, e := full.Along(x.c, x.v, x.outcomes); e != x.along || (len(b.State) == 0) != (e != api.OK) {
			t.Error(i, b, e)
		}
	}
}

// P6.4

// spread is a circuit whose operator is too large, but only in the columns in which wire 5 is 1.
const spread = "wires 6; h 0; h 1; h 2; h 3; h 4; h 4; ccx 1 2 4; ccx 4 0 1; h 2; ccx 1 3 0; h 3; ccx 2 0 4; h 1; ccx 4 3 0; h 4; h 3; ccx 0 4 2; h 4; ccx 1 2 0; h 1; " +
	"ccx 3 1 2; ccx 4 0 1; h 0; h 3; ccx 0 2 4; ccx 3 1 2; h 1; h 0; ccx 0 2 3; ccx 3 1 0; h 3; h 1; ccx 3 1 2; ccx 0 4 1; h 3; ccx 1 3 0; h 4; ccx 2 4 3; h 1; h 4; ccx 1 0 2; h 0; " +
	"ccx 3 4 1; h 3; ccx 0 1 4; ccx 3 4 0; h 4; ccx 0 2 3; h 2; h 1; ccx 1 4 0; h 1; ccx 2 3 4; ccx 1 0 3; h 1; h 0; ccx 3 1 2; h 3; ccx 2 3 1; ccx 4 0 2; h 4; h 0; ccx 4 2 3; h 4; " +
	"ccx 3 0 2; h 0; ccx 2 4 3; ccx 1 0 2; h 4; h 1; ccx 2 4 0; h 4; ccx 1 4 2; ccx 0 3 4; h 1; ccx 1 2 3; h 1; h 2; ccx 2 4 0; h 4; ccx 4 3 2; ccx 1 2 3; h 4; ccx 0 3 1; h 0; h 3; " +
	"ccx 1 0 2; ccx 3 2 1; h 3; ccx 3 4 0; h 4; h 2; ccx 0 1 3; h 1; ccx 3 4 0; ccx 1 2 3; h 1; ccx 1 0 4; ccx 3 4 1; h 4; h 2; ccx 2 1 3; h 2; h 0; ccx 2 0 1; ccx 4 3 2; h 3; " +
	"ccx 1 3 0; ccx 0 2 3; h 0; h 1; ccx 0 3 2; h 0; h 3; ccx 2 0 4; h 0; ccx 3 5 2; h 3; h 0;"

// modelMatrix returns the operator of a plain circuit, column by column.
func modelMatrix(c api.Circuit) ([][]api.Num, api.Errno) {
	m := make([][]api.Num, 1<<c.Wires)
	for k := range m {
		v := make([]api.Num, len(m))
		v[k].A = 1
		b, e := modelAlong(c, v, nil)
		if e != api.OK {
			return nil, e
		}
		for row, x := range b.State {
			m[row] = append(m[row], x)
		}
	}
	return m, api.OK
}

func TestMatrixAndAmplitude(t *testing.T) {
	d := draws(8)
	for range 120 {
		wires := 1 + d.below(6)
		c := d.circuit(wires, 0, d.below(40), plainKinds())
		c.Bits = d.below(9)
		want, f := modelMatrix(c)
		m, e := full.Matrix(c)
		if !equal(m, want) || e != f || e != api.OK {
			t.Fatal(c, m, e, want, f)
		}
		for range 20 {
			in, out := d.below(1<<wires), d.below(1<<wires)
			if x, e := full.Amplitude(c, in, out); x != want[out][in] || e != api.OK {
				t.Fatal(c, in, out, x, e)
			}
		}
	}
}

func TestMatrixOfOneGate(t *testing.T) {
	for _, kind := range plainKinds() {
		for n := modelArity(kind); n <= 4; n++ {
			for _, wires := range wireLists(modelArity(kind), n) {
				m, _ := matrix.Of(kind)
				want, _ := matrix.On(m, wires, n)
				if m, e := full.Matrix(of(n, 0, on(kind, wires...))); !equal(m, want) || e != api.OK {
					t.Fatal(kind, wires, n, m, e)
				}
			}
		}
	}
	for n := 1; n <= 6; n++ {
		want, _ := matrix.Identity(n)
		if m, e := full.Matrix(of(n, 8)); !equal(m, want) || e != api.OK {
			t.Error(n, m, e)
		}
	}
}

func TestErrorsOfMatrixAndAmplitude(t *testing.T) {
	for i, x := range []struct {
		c       api.Circuit
		in, out int
		e, f    api.Errno // of Matrix, and of Amplitude
	}{
		{of(1, 1, look(0, 0)), 0, 0, api.ErrClash, api.ErrClash}, {resets(1, 1), 0, 0, api.ErrClash, api.ErrClash}, {of(1, 1, when(1, api.X, 0)), 0, 0, api.ErrClash, api.ErrClash}, {of(6, 8, on(api.H, 0), look(0, 0)), -1, 99, api.ErrClash, api.ErrClash}, {resets(7, 1), 0, 0, api.ErrClash, api.ErrClash}, {resets(12, 9), 0, 0, api.ErrClash, api.ErrClash},
		{of(7, 0), 0, 0, api.ErrRange, api.ErrRange}, {of(12, 8, on(api.H, 11)), -1, 1 << 12, api.ErrRange, api.ErrRange},
		{of(1, 0), 2, 0, api.OK, api.ErrNot}, {of(1, 0), 0, 2, api.OK, api.ErrNot}, {of(1, 0), -1, 0, api.OK, api.ErrNot}, {of(1, 0), 0, -1, api.OK, api.ErrNot}, {of(6, 0), 63, 64, api.OK, api.ErrNot}, {of(6, 0), 64, 63, api.OK, api.ErrNot}, {of(3, 0), math.MinInt, math.MaxInt, api.OK, api.ErrNot}, {of(3, 0), 8, 8, api.OK, api.ErrNot}, {of(6, 0), 63, 63, api.OK, api.OK},
		// Amplitude computes the column that is asked for alone
		{ofText(t, spread), 0, 0, api.ErrLarge, api.OK}, {ofText(t, spread), 31, 63, api.ErrLarge, api.OK}, {ofText(t, spread), 32, 0, api.ErrLarge, api.ErrLarge}, {ofText(t, spread), 63, 31, api.ErrLarge, api.ErrLarge}, {ofText(t, spread), 32, 64, api.ErrLarge, api.ErrNot}, {ofText(t, spread), -1, 0, api.ErrLarge, api.ErrNot},
	} {
		m, e := full.Matrix(x.c)
		if e != x.e || e != api.OK && len(m) != 0 {
			t.Error(i, len(m), e)
		}
		if a, e := full.Amplitude(x.c, x.in, x.out); e != x.f || e != api.OK && a != zero {
			t.Error(i, a, e)
		}
	}
}

func TestEqual(t *testing.T) {
	d := draws(9)
	found := map[int]int{}
	for range 300 {
		wires := 1 + d.below(4)
		c := d.circuit(wires, 0, d.below(12), plainKinds())
		e := of(wires, d.below(9), slices.Clone(c.Gates)...)
		// T, X, T, X multiplies with w
		for range d.below(8) {
			wire, at := d.below(wires), d.below(len(e.Gates)+1)
			e.Gates = slices.Insert(e.Gates, at, on(api.T, wire), on(api.X, wire), on(api.T, wire), on(api.X, wire))
		}
		if len(e.Gates) > 0 && d.below(3) == 0 {
			at := d.below(len(e.Gates))
			e.Gates = slices.Delete(e.Gates, at, at+1)
		}
		m, _ := modelMatrix(c)
		n, _ := modelMatrix(e)
		want, f := matrix.Phase(m, n)
		if k, g := full.Equal(c, e); k != want || g != f {
			t.Fatal(c, e, k, g, want, f)
		}
		if f != api.OK {
			want = -1
		}
		found[want]++
	}
	for k := -1; k < 8; k++ {
		if found[k] < 10 {
			t.Error(k, found)
		}
	}
}

func TestExamplesAndErrorsOfEqual(t *testing.T) {
	wide, looked := ofText(t, spread), of(6, 1, look(0, 0))
	for i, x := range []struct {
		c, d api.Circuit
		k    int
		e    api.Errno
	}{
		{of(1, 0, on(api.T, 0), on(api.T, 0)), of(1, 0, on(api.S, 0)), 0, api.OK}, {of(1, 0, on(api.X, 0), on(api.Z, 0)), of(1, 0, on(api.Y, 0)), 2, api.OK}, {of(1, 0, on(api.Z, 0), on(api.X, 0)), of(1, 0, on(api.Y, 0)), 6, api.OK}, {of(1, 0, on(api.H, 0)), of(1, 0, on(api.X, 0)), 0, api.ErrNone}, {of(1, 0, on(api.T, 0)), of(1, 0), 0, api.ErrNone}, {of(6, 0), of(6, 8), 0, api.OK},
		{of(2, 0, on(api.Swap, 0, 1)), of(2, 0, on(api.CX, 0, 1), on(api.CX, 1, 0), on(api.CX, 0, 1)), 0, api.OK}, {of(2, 0, on(api.CX, 0, 1)), of(2, 0, on(api.CX, 1, 0)), 0, api.ErrNone}, {of(3, 0, on(api.H, 2), on(api.CCX, 0, 1, 2), on(api.H, 2)), of(3, 0, on(api.H, 0), on(api.CCX, 2, 1, 0), on(api.H, 0)), 0, api.OK},
		// how many wires there are is asked before what they do
		{of(1, 0), of(2, 0), 0, api.ErrClash}, {of(7, 0), of(8, 0), 0, api.ErrClash}, {wide, of(5, 0), 0, api.ErrClash}, {of(7, 0), of(6, 0), 0, api.ErrClash},
		{looked, of(6, 0), 0, api.ErrClash}, {of(6, 0), looked, 0, api.ErrClash}, {of(7, 0), of(7, 0), 0, api.ErrRange}, {resets(7, 1), of(7, 0), 0, api.ErrClash}, {of(7, 0), resets(7, 1), 0, api.ErrRange},
		// all errors of the first operator come before those of the second one
		{wide, looked, 0, api.ErrLarge}, {looked, wide, 0, api.ErrClash}, {wide, of(6, 0), 0, api.ErrLarge}, {of(6, 0), wide, 0, api.ErrLarge}, {wide, wide, 0, api.ErrLarge},
	} {
		if k, e := full.Equal(x.c, x.d); k != x.k || e != x.e {
			t.Error(i, k, e)
		}
	}
}

// P6.5

func TestNormsOfBranches(t *testing.T) {
	d := draws(10)
	for range 400 {
		wires, bits := 1+d.below(5), d.below(4)
		c := few(d.circuit(wires, bits, d.below(40), anyKinds()), 6)
		v := d.state(wires, 2, 2)
		want, _ := full.Norm(v)
		l, e := full.Run(c, v)
		sum := zero
		for i, b := range l {
			norm, f := full.Norm(b.State)
			sum, _ = ring.Add(sum, norm)
			along, g := full.Along(c, v, b.Outcomes)
			if norm == zero || f != api.OK || g != api.OK || !sameBranch(along, b) || i > 0 && slices.Compare(l[i-1].Outcomes, b.Outcomes) >= 0 {
				t.Fatal(c, v, b, f, along, g)
			}
		}
		odds, f := full.Bits(c, v)
		all, _ := ring.Sum(odds)
		if sum != want || all != want || e != api.OK || f != api.OK {
			t.Fatal(c, v, want, sum, e, all, f)
		}
	}
}

func TestPlainRunsAreTheOperator(t *testing.T) {
	d := draws(11)
	for range 100 {
		wires := 1 + d.below(6)
		c := d.circuit(wires, 0, d.below(40), plainKinds())
		v := d.state(wires, 3, 3)
		m, e := full.Matrix(c)
		if is, f := matrix.Unitary(m); !is || e != api.OK || f != api.OK {
			t.Fatal(c, is, e, f)
		}
		want, _ := matrix.Apply(m, v)
		l, e := full.Run(c, v)
		if len(l) > 1 || (len(l) == 0) != dead(v) || len(l) == 1 && !slices.Equal(l[0].State, want) || e != api.OK {
			t.Fatal(c, v, l, e)
		}
		u := v
		for _, g := range c.Gates {
			if u, e = full.Apply(u, g); e != api.OK {
				t.Fatal(c, v, g, e)
			}
		}
		if !slices.Equal(leastOf(u), want) {
			t.Fatal(c, v, u, want)
		}
	}
}

func TestGatesKeepTheNormAndAreUndone(t *testing.T) {
	d := draws(12)
	for range 1000 {
		wires := 1 + d.below(6)
		v := d.state(wires, 5, 4)
		c := of(wires, 0, d.gate(wires, 0, plainKinds()))
		back, _ := circ.Inverse(c)
		u, e := full.Apply(v, c.Gates[0])
		x, _ := full.Norm(v)
		y, _ := full.Norm(u)
		again, f := full.Apply(u, back.Gates[0])
		if x != y || !slices.Equal(again, leastOf(v)) || e != api.OK || f != api.OK {
			t.Fatal(v, c, x, y, e, again, f)
		}
	}
}

func TestFoundAgain(t *testing.T) {
	d := draws(13)
	for range 500 {
		wires := 1 + d.below(5)
		v := d.state(wires, 5, 4)
		wire, outcome := d.below(wires), d.below(2)
		once, _ := full.Find(v, wire, outcome)
		twice, e := full.Find(once, wire, outcome)
		other, f := full.Find(once, wire, 1-outcome)
		if !slices.Equal(once, twice) || !dead(other) || e != api.OK || f != api.OK {
			t.Fatal(v, wire, outcome, once, twice, e, other, f)
		}
		l, e := full.Run(of(wires, 2, look(wire, 0), look(wire, 1)), v)
		for _, b := range l {
			if b.Outcomes[0] != b.Outcomes[1] || b.Bits != 3*b.Outcomes[0] || e != api.OK {
				t.Fatal(v, wire, b, e)
			}
		}
	}
}

func TestGatesOnDifferentWires(t *testing.T) {
	d := draws(14)
	for exchanged := 0; exchanged < 500; {
		wires := 2 + d.below(5)
		g, h := d.gate(wires, 0, plainKinds()), d.gate(wires, 0, plainKinds())
		if slices.ContainsFunc(g.Wires, func(wire int) bool { return slices.Contains(h.Wires, wire) }) {
			continue
		}
		exchanged++
		v := d.state(wires, 5, 4)
		a, _ := full.Apply(v, g)
		a, e := full.Apply(a, h)
		b, _ := full.Apply(v, h)
		b, f := full.Apply(b, g)
		if !slices.Equal(a, b) || e != api.OK || f != api.OK {
			t.Fatal(v, g, h, a, e, b, f)
		}
	}
}

// What chapter 4 calls the same does the same here.
func TestTidiedAndCancelled(t *testing.T) {
	d := draws(15)
	for range 150 {
		wires := 1 + d.below(4)
		c := d.circuit(wires, 0, d.below(30), plainKinds())
		tidy, _ := circ.Tidy(c)
		less, _ := circ.Cancel(c)
		k, e := full.Equal(c, tidy)
		n, f := full.Equal(less, c)
		if k != 0 || n != 0 || e != api.OK || f != api.OK {
			t.Fatal(c, k, e, n, f)
		}
	}
}

// R4

func TestMemory(t *testing.T) {
	d := draws(16)
	for range 100 {
		wires := 1 + d.below(4)
		c := few(d.circuit(wires, 2, d.below(12), anyKinds()), 4)
		v := d.state(wires, 3, 3)
		v[0] = ring.Omega(0)
		gates, given := c.Gates, slices.Clone(v)
		l, _ := full.Run(c, v)
		again, _ := full.Run(c, v)
		outcomes := slices.Clone(l[0].Outcomes)
		along, _ := full.Along(c, v, outcomes)
		if !slices.Equal(outcomes, l[0].Outcomes) || !slices.Equal(v, given) || !circ.Same(c, of(wires, 2, gates...)) {
			t.Fatal(c, v)
		}
		for i := range l {
			clear(l[i].State)
			for k := range l[i].Outcomes {
				l[i].Outcomes[k] = 9
			}
			if !slices.EqualFunc(l[i+1:], again[i+1:], sameBranch) {
				t.Fatal(c, v, i)
			}
		}
		if !slices.Equal(v, given) || !slices.Equal(outcomes, again[0].Outcomes) {
			t.Fatal(c, v)
		}
		clear(outcomes)
		clear(v)
		if !sameBranch(along, again[0]) {
			t.Fatal(c, v)
		}
	}
}

func TestMemoryOfStatesAndOperators(t *testing.T) {
	v, wires := ints(1, 2, 3, 4), []int{1, 0}
	u, _ := full.Apply(v, on(api.Swap, wires...))
	f, _ := full.Find(v, 0, 0)
	l, _ := full.Run(of(2, 0), v)
	clear(u)
	clear(f)
	clear(l[0].State)
	if !slices.Equal(v, ints(1, 2, 3, 4)) || !slices.Equal(wires, []int{1, 0}) {
		t.Error(v, wires)
	}
	c := of(2, 0, on(api.H, 0), on(api.CX, wires...))
	m, _ := full.Matrix(c)
	n, _ := full.Matrix(c)
	for i := range m {
		clear(m[i])
		if !equal(m[i+1:], n[i+1:]) {
			t.Error(i)
		}
	}
	if again, _ := full.Matrix(c); !equal(again, n) {
		t.Error(again)
	}
}

// P0.1

func TestAnyArguments(t *testing.T) {
	numbers := []int{math.MinInt, -most - 1, -most, -1, 0, 0, 0, 1, 1, 2, 5, 6, 7, 8, 13, 63, 64, most, most + 1, math.MaxInt}
	d := draws(17)
	any := func() int {
		if d.below(3) == 0 {
			return numbers[d.below(len(numbers))]
		}
		return d.below(3)
	}
	gate := func() api.Gate {
		g := api.Gate{Kind: d.below(16), Wires: make([]int, d.below(4))}
		if d.below(4) > 0 {
			g = d.gate(3, 2, anyKinds())
		}
		for i := range g.Wires {
			if d.below(8) == 0 {
				g.Wires[i] = any()
			}
		}
		if d.below(8) == 0 {
			g.Kind, g.Bit, g.If = any(), any(), any()
		}
		return g
	}
	circuit := func() api.Circuit {
		c := of(3, 2)
		if d.below(4) == 0 {
			c.Wires, c.Bits = any(), any()
		}
		for range d.below(7) {
			c.Gates = append(c.Gates, gate())
		}
		return c
	}
	state := func() []api.Num {
		v := make([]api.Num, []int{8, 8, 8, 4, 2, 1, 3, 0}[d.below(8)])
		for i := range v {
			if d.below(5) == 0 {
				v[i] = num(any(), any(), any(), any(), d.below(64)-1)
			}
		}
		return v
	}
	for range 20000 {
		c, v, g := circuit(), state(), gate()
		check := full.Check(v)
		u, e := full.Apply(v, g)
		wellFormed(t, "Apply", u, e)
		u, e = full.Find(v, any(), any())
		wellFormed(t, "Find", u, e)
		u, e = full.Basis(any(), any())
		wellFormed(t, "Basis", u, e)
		x, e := full.Norm(v)
		wellFormed(t, "Norm", []api.Num{x}, e)
		x, e = full.Odds(v, any())
		wellFormed(t, "Odds", []api.Num{x}, e)
		x, e = full.Amplitude(c, any(), any())
		wellFormed(t, "Amplitude", []api.Num{x}, e)
		u, e = full.Bits(c, v)
		wellFormed(t, "Bits", u, e)
		l, e := full.Run(c, v)
		for _, b := range l {
			wellFormed(t, "Run", b.State, e)
		}
		b, e := full.Along(c, v, []int{any(), d.below(2)}[:d.below(3)])
		wellFormed(t, "Along", b.State, e)
		m, e := full.Matrix(c)
		for _, row := range m {
			wellFormed(t, "Matrix", row, e)
		}
		if k, e := full.Equal(c, circuit()); k < 0 || k > 7 || k != 0 && e != api.OK {
			t.Fatal(c, k, e)
		}
		if k, e := full.Phase(v, state()); k < 0 || k > 7 || check != api.OK && e != check {
			t.Fatal(v, k, e)
		}
		if n, e := full.Wires(v); n < 0 || n > 6 || e != check {
			t.Fatal(v, n, e)
		}
	}
}

// wellFormed checks that numbers are in least form, or 0 with an error.
func wellFormed(t *testing.T, name string, l []api.Num, e api.Errno) {
	t.Helper()
	if !slices.Equal(l, leastOf(l)) || e != api.OK && !dead(l) {
		t.Fatal(name, l, e)
	}
}
