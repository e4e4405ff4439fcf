package circ_test

import (
	"math"
	"slices"
	"testing"

	"spoondrift/api"
	"spoondrift/circ"
)

// on makes a gate, when one with an If, look a Measure; of makes a circuit of three wires and two bits.
func on(kind int, wires ...int) api.Gate { return api.Gate{Kind: kind, Wires: wires} }

func when(n, kind int, wires ...int) api.Gate { return api.Gate{Kind: kind, Wires: wires, If: n} }

func look(wire, bit int) api.Gate { return api.Gate{Kind: api.Measure, Wires: []int{wire}, Bit: bit} }

func of(l ...api.Gate) api.Circuit { return api.Circuit{Wires: 3, Bits: 2, Gates: l} }

// many is a circuit of n gates that undo one another.
func many(n int) api.Circuit { return of(slices.Repeat([]api.Gate{on(api.H, 0)}, n)...) }

// call is a function of a circuit, with its other arguments; it tells whether the results are zero, too.
type call func(c api.Circuit) (bool, api.Errno)

func isZero(c api.Circuit, e api.Errno) (bool, api.Errno) { return equal(c, api.Circuit{}), e }

func isFalse(is bool, e api.Errno) (bool, api.Errno) { return !is, e }

func isEmpty(l []int, e api.Errno) (bool, api.Errno) { return len(l) == 0, e }

// calls are all functions that have a right circuit, with other arguments that would be an error, too, if they have some.
func calls() map[string]call {
	bad := of(on(99))
	return map[string]call{
		"Check":     func(c api.Circuit) (bool, api.Errno) { return true, circ.Check(c) },
		"Plain":     func(c api.Circuit) (bool, api.Errno) { return isFalse(circ.Plain(c)) },
		"Compose":   func(c api.Circuit) (bool, api.Errno) { return isZero(circ.Compose(c, api.Circuit{Wires: 1, Bits: 99})) },
		"Compose d": func(c api.Circuit) (bool, api.Errno) { return isZero(circ.Compose(api.Circuit{Wires: 5}, c)) },
		"Inverse":   func(c api.Circuit) (bool, api.Errno) { return isZero(circ.Inverse(c)) },
		"Relabel":   func(c api.Circuit) (bool, api.Errno) { return isZero(circ.Relabel(c, []int{9})) },
		"Widen":     func(c api.Circuit) (bool, api.Errno) { return isZero(circ.Widen(c, 99, 99)) },
		"Slice":     func(c api.Circuit) (bool, api.Errno) { return isZero(circ.Slice(c, -1, 999)) },
		"Layers":    func(c api.Circuit) (bool, api.Errno) { return isEmpty(circ.Layers(c)) },
		"Depth":     func(c api.Circuit) (bool, api.Errno) { n, e := circ.Depth(c); return n == 0, e },
		"Count":     func(c api.Circuit) (bool, api.Errno) { n, e := circ.Count(c); return n == [14]int{}, e },
		"Used":      func(c api.Circuit) (bool, api.Errno) { return isEmpty(circ.Used(c)) },
		"Commute":   func(c api.Circuit) (bool, api.Errno) { return isFalse(circ.Commute(c, -1, 0)) },
		"Undo":      func(c api.Circuit) (bool, api.Errno) { return isFalse(circ.Undo(c, 0, 999)) },
		"Tidy":      func(c api.Circuit) (bool, api.Errno) { return isZero(circ.Tidy(c)) },
		"Equal":     func(c api.Circuit) (bool, api.Errno) { return isFalse(circ.Equal(c, bad)) },
		"Equal d":   func(c api.Circuit) (bool, api.Errno) { return isFalse(circ.Equal(api.Circuit{Wires: 5}, c)) },
		"Cancel":    func(c api.Circuit) (bool, api.Errno) { return isZero(circ.Cancel(c)) },
	}
}

// P4.1

func TestErrorsOfCheck(t *testing.T) {
	low, high := math.MinInt, math.MaxInt
	for i, x := range []struct {
		c api.Circuit
		e api.Errno
	}{
		{api.Circuit{}, api.ErrRange}, {api.Circuit{Wires: -1}, api.ErrRange}, {api.Circuit{Wires: 13}, api.ErrRange}, {api.Circuit{Wires: low}, api.ErrRange}, {api.Circuit{Wires: high, Bits: high}, api.ErrRange},
		{api.Circuit{Wires: 1, Bits: 9}, api.ErrRange}, {api.Circuit{Wires: 1, Bits: -1}, api.ErrRange}, {api.Circuit{Wires: 12, Bits: low}, api.ErrRange}, {api.Circuit{Wires: 12, Bits: high}, api.ErrRange},
		{api.Circuit{Wires: 13, Gates: many(121).Gates}, api.ErrRange}, {api.Circuit{Wires: 3, Bits: 9, Gates: many(121).Gates}, api.ErrRange}, {api.Circuit{Bits: 2, Gates: []api.Gate{on(api.H, 7)}}, api.ErrRange},
		{many(121), api.ErrMany}, {of(make([]api.Gate, 121)...), api.ErrMany}, {of(make([]api.Gate, 100000)...), api.ErrMany},
		// kinds
		{of(on(0)), api.ErrRange}, {of(on(15, 0)), api.ErrRange}, {of(on(-1, 0)), api.ErrRange}, {of(on(low)), api.ErrRange}, {of(on(high, 0, 1)), api.ErrRange}, {of(api.Gate{Kind: 15, Wires: []int{9, 9}, Bit: 9, If: 9}), api.ErrRange},
		// how many wires
		{of(on(api.H)), api.ErrMany}, {of(on(api.H, 0, 1)), api.ErrMany}, {of(on(api.CX, 0)), api.ErrMany}, {of(on(api.CX, 0, 1, 2)), api.ErrMany}, {of(on(api.CCX, 0, 1)), api.ErrMany}, {of(on(api.CCX, 0, 1, 2, 0)), api.ErrMany}, {of(api.Gate{Kind: api.Measure, Bit: 9}), api.ErrMany}, {of(api.Gate{Kind: api.Reset, Wires: []int{7, 7}, Bit: 9, If: 9}), api.ErrMany}, {of(api.Gate{Kind: api.X, Wires: make([]int, 100000)}), api.ErrMany},
		// wires
		{of(on(api.H, 3)), api.ErrNot}, {of(on(api.H, -1)), api.ErrNot}, {of(on(api.H, low)), api.ErrNot}, {of(on(api.H, high)), api.ErrNot}, {of(on(api.CX, 0, 3)), api.ErrNot}, {of(on(api.CX, 3, 3)), api.ErrNot}, {of(on(api.CX, -1, -1)), api.ErrNot}, {of(on(api.CCX, 1, 1, 3)), api.ErrNot}, {of(on(api.CCX, -1, 1, 1)), api.ErrNot}, {of(api.Gate{Kind: api.X, Wires: []int{3}, Bit: 1}), api.ErrNot},
		{of(on(api.CX, 1, 1)), api.ErrTwice}, {of(on(api.CZ, 0, 0)), api.ErrTwice}, {of(on(api.Swap, 2, 2)), api.ErrTwice}, {of(on(api.CCX, 1, 2, 1)), api.ErrTwice}, {of(on(api.CCX, 1, 1, 2)), api.ErrTwice}, {of(on(api.CCX, 2, 1, 1)), api.ErrTwice}, {of(when(9, api.CX, 1, 1)), api.ErrTwice}, {of(api.Gate{Kind: api.CX, Wires: []int{1, 1}, Bit: 1}), api.ErrTwice},
		// bits
		{of(when(3, api.X, 0)), api.ErrNot}, {of(when(-1, api.X, 0)), api.ErrNot}, {of(when(low, api.X, 0)), api.ErrNot}, {of(when(high, api.X, 0)), api.ErrNot}, {of(look(0, 2)), api.ErrNot}, {of(look(0, -1)), api.ErrNot}, {of(look(0, low)), api.ErrNot}, {of(look(0, high)), api.ErrNot}, {api.Circuit{Wires: 1, Gates: []api.Gate{look(0, 0)}}, api.ErrNot}, {api.Circuit{Wires: 1, Gates: []api.Gate{when(1, api.X, 0)}}, api.ErrNot},
		{of(when(3, api.Measure, 0)), api.ErrNot}, {of(when(3, api.Reset, 0)), api.ErrNot}, {of(api.Gate{Kind: api.Measure, Wires: []int{0}, Bit: 2, If: 1}), api.ErrNot}, {of(api.Gate{Kind: api.X, Wires: []int{0}, Bit: 1, If: 3}), api.ErrNot},
		{of(when(1, api.Measure, 0)), api.ErrClash}, {of(when(2, api.Reset, 0)), api.ErrClash}, {of(api.Gate{Kind: api.X, Wires: []int{0}, Bit: 1}), api.ErrClash}, {of(api.Gate{Kind: api.X, Wires: []int{0}, Bit: -1}), api.ErrClash}, {of(api.Gate{Kind: api.X, Wires: []int{0}, Bit: 9, If: 2}), api.ErrClash}, {of(api.Gate{Kind: api.Reset, Wires: []int{0}, Bit: 1}), api.ErrClash}, {of(api.Gate{Kind: api.CCX, Wires: []int{0, 1, 2}, Bit: high}), api.ErrClash},
		// the first gate that is wrong decides, whatever is wrong with it
		{of(on(api.H, 0), on(api.H, 7), on(0)), api.ErrNot}, {of(when(1, api.Measure, 0), on(0)), api.ErrClash}, {of(on(api.CX, 1, 1), on(api.H)), api.ErrTwice}, {of(on(api.H, 0, 0), on(0)), api.ErrMany}, {of(on(0), on(api.H)), api.ErrRange}, {of(append(many(119).Gates, on(api.CX, 0, 0))...), api.ErrTwice},
	} {
		if e := modelCheck(x.c); e != x.e {
			t.Fatal(i, e)
		}
		for name, do := range calls() {
			if zero, e := do(x.c); !zero || e != x.e {
				t.Error(i, name, zero, e, x.e)
			}
		}
	}
}

func TestCheckAsTheModel(t *testing.T) {
	d := draws(1)
	errors := map[api.Errno]int{}
	for range 20000 {
		c := d.circuit(3, 2, 1+d.below(4))
		for range d.below(3) {
			g := &c.Gates[d.below(len(c.Gates))]
			switch d.below(5) {
			case 0:
				g.Kind = d.below(17) - 1
			case 1:
				g.Wires = append(slices.Clone(g.Wires), d.below(3))
			case 2:
				g.Wires[d.below(len(g.Wires))] = d.below(5) - 1
			case 3:
				g.Bit = d.below(4) - 1
			case 4:
				g.If = d.below(5) - 1
			}
		}
		e := circ.Check(c)
		if e != modelCheck(c) {
			t.Fatal(c, e)
		}
		errors[e]++
	}
	for _, e := range []api.Errno{api.OK, api.ErrRange, api.ErrMany, api.ErrNot, api.ErrTwice, api.ErrClash} {
		if errors[e] < 150 {
			t.Error(errors)
		}
	}
}

func TestRightCircuits(t *testing.T) {
	for i, c := range []api.Circuit{
		of(), {Wires: 1}, {Wires: 12, Bits: 8}, many(120), {Wires: 1, Gates: []api.Gate{}},
		{Wires: 12, Bits: 8, Gates: []api.Gate{on(api.CCX, 11, 0, 10), look(11, 7), when(8, api.X, 11), on(api.Reset, 11)}},
		of(on(api.X, 0), on(api.Y, 1), on(api.Z, 2), on(api.H, 0), on(api.S, 1), on(api.Sd, 2), on(api.T, 0), on(api.Td, 1), on(api.CX, 2, 0), on(api.CZ, 1, 2), on(api.Swap, 0, 1), on(api.CCX, 2, 1, 0), look(0, 1), on(api.Reset, 2)),
		of(when(2, api.X, 0), when(1, api.Swap, 0, 2), when(2, api.CCX, 0, 1, 2), look(2, 0)),
	} {
		if e := circ.Check(c); e != api.OK {
			t.Error(i, e)
		}
	}
}

func TestArity(t *testing.T) {
	for kind := -20; kind < 40; kind++ {
		if n := circ.Arity(kind); n != modelArity(kind) {
			t.Error(kind, n)
		}
	}
	for _, kind := range []int{math.MinInt, math.MaxInt} {
		if n := circ.Arity(kind); n != 0 {
			t.Error(kind, n)
		}
	}
}

func TestPlain(t *testing.T) {
	for _, x := range []struct {
		c  api.Circuit
		is bool
	}{
		{of(), true}, {many(120), true}, {of(on(api.CCX, 0, 1, 2), on(api.Swap, 0, 1), on(api.Td, 2)), true},
		{of(look(0, 0)), false}, {of(on(api.Reset, 0)), false}, {of(when(1, api.X, 0)), false}, {of(on(api.H, 0), look(1, 1), on(api.H, 0)), false}, {of(on(api.H, 0), on(api.Reset, 1)), false}, {of(when(2, api.H, 0), on(api.X, 1)), false},
	} {
		if is, e := circ.Plain(x.c); is != x.is || e != api.OK {
			t.Error(x.c, is, e)
		}
	}
}

func TestSame(t *testing.T) {
	a := of(on(api.CX, 0, 1), when(1, api.X, 0), look(2, 1))
	other := func(change func(c *api.Circuit)) api.Circuit {
		c := clone(a)
		change(&c)
		return c
	}
	for i, x := range []struct {
		c, d api.Circuit
		is   bool
	}{
		{a, clone(a), true}, {of(), api.Circuit{Wires: 3, Bits: 2, Gates: []api.Gate{}}, true}, {api.Circuit{}, api.Circuit{Gates: []api.Gate{}}, true}, {api.Circuit{Wires: -7, Bits: 99}, api.Circuit{Wires: -7, Bits: 99}, true},
		{of(on(99, 7, 7)), of(on(99, 7, 7)), true}, {of(api.Gate{}), of(api.Gate{Wires: []int{}}), true}, {of(on(99, 7, 7)), of(on(99, 7, 8)), false}, {of(api.Gate{}), of(), false}, {many(500), many(500), true}, {many(500), many(501), false},
		{a, other(func(c *api.Circuit) { c.Wires = 4 }), false}, {a, other(func(c *api.Circuit) { c.Bits = 3 }), false}, {a, other(func(c *api.Circuit) { c.Gates = c.Gates[:2] }), false}, {a, other(func(c *api.Circuit) { c.Gates[0].Kind = api.CZ }), false}, {a, other(func(c *api.Circuit) { c.Gates[0].Wires[1] = 2 }), false}, {a, other(func(c *api.Circuit) { slices.Reverse(c.Gates[0].Wires) }), false},
		{a, other(func(c *api.Circuit) { c.Gates[0].Wires = append(c.Gates[0].Wires, 2) }), false}, {a, other(func(c *api.Circuit) { c.Gates[1].If = 2 }), false}, {a, other(func(c *api.Circuit) { c.Gates[2].Bit = 0 }), false}, {a, other(func(c *api.Circuit) { slices.Reverse(c.Gates) }), false}, {of(on(api.CZ, 0, 1)), of(on(api.CZ, 1, 0)), false}, {of(on(api.X, 0), on(api.X, 1)), of(on(api.X, 1), on(api.X, 0)), false},
	} {
		if circ.Same(x.c, x.d) != x.is || circ.Same(x.d, x.c) != x.is {
			t.Error(i)
		}
	}
}

// P4.2

func TestCompose(t *testing.T) {
	a, b := of(on(api.H, 0), look(0, 1)), of(when(2, api.CX, 2, 1), on(api.Reset, 2))
	if c, e := circ.Compose(a, b); e != api.OK || !equal(c, of(on(api.H, 0), look(0, 1), when(2, api.CX, 2, 1), on(api.Reset, 2))) {
		t.Error(c, e)
	}
	for i, x := range []struct {
		c, d api.Circuit
		n    int
		e    api.Errno
	}{
		{of(), of(), 0, api.OK}, {a, of(), 2, api.OK}, {of(), b, 2, api.OK}, {many(60), many(60), 120, api.OK}, {many(120), of(), 120, api.OK}, {many(61), many(60), 0, api.ErrMany}, {of(on(api.X, 0)), many(120), 0, api.ErrMany}, {many(120), many(120), 0, api.ErrMany},
		{a, api.Circuit{Wires: 3}, 0, api.ErrClash}, {a, api.Circuit{Wires: 2, Bits: 2}, 0, api.ErrClash}, {api.Circuit{Wires: 4, Bits: 2}, a, 0, api.ErrClash}, {many(61), api.Circuit{Wires: 4, Bits: 2, Gates: many(60).Gates}, 0, api.ErrClash}, {many(61), api.Circuit{Wires: 3, Bits: 1, Gates: many(60).Gates}, 0, api.ErrClash},
		// first the errors of c, then those of d
		{of(on(0)), many(121), 0, api.ErrRange}, {many(121), of(on(0)), 0, api.ErrMany}, {of(on(api.CX, 0, 0)), of(on(0)), 0, api.ErrTwice}, {api.Circuit{Wires: 1}, of(on(api.H, 3)), 0, api.ErrNot}, {many(120), many(121), 0, api.ErrMany}, {api.Circuit{Wires: 4, Bits: 2, Gates: many(120).Gates}, of(look(0, 2)), 0, api.ErrNot},
	} {
		c, e := circ.Compose(x.c, x.d)
		if e != x.e || len(c.Gates) != x.n || e != api.OK && !equal(c, api.Circuit{}) {
			t.Error(i, c, e)
		}
	}
}

func TestInverse(t *testing.T) {
	for _, x := range []struct{ c, d api.Circuit }{
		{of(), of()}, {of(on(api.S, 0), on(api.T, 1)), of(on(api.Td, 1), on(api.Sd, 0))}, {of(on(api.Td, 0), on(api.Sd, 0)), of(on(api.S, 0), on(api.T, 0))},
		{of(on(api.X, 0), on(api.Y, 0), on(api.Z, 0), on(api.H, 0), on(api.CX, 2, 1), on(api.CZ, 2, 0), on(api.Swap, 1, 0), on(api.CCX, 2, 0, 1)), of(on(api.CCX, 2, 0, 1), on(api.Swap, 1, 0), on(api.CZ, 2, 0), on(api.CX, 2, 1), on(api.H, 0), on(api.Z, 0), on(api.Y, 0), on(api.X, 0))},
	} {
		if d, e := circ.Inverse(x.c); e != api.OK || !equal(d, x.d) {
			t.Error(x.c, d, e)
		}
	}
	for _, c := range []api.Circuit{of(look(0, 0)), of(on(api.Reset, 0)), of(when(1, api.X, 0)), of(on(api.H, 0), when(2, api.S, 1), on(api.H, 0))} {
		if d, e := circ.Inverse(c); e != api.ErrClash || !equal(d, api.Circuit{}) {
			t.Error(c, d, e)
		}
	}
}

func TestRelabel(t *testing.T) {
	a := of(on(api.CX, 0, 1), look(2, 1), when(2, api.CCX, 2, 0, 1), on(api.Reset, 1))
	for i, x := range []struct {
		c     api.Circuit
		wires []int
		d     api.Circuit
		e     api.Errno
	}{
		{a, []int{0, 1, 2}, a, api.OK}, {a, []int{1, 2, 0}, of(on(api.CX, 1, 2), look(0, 1), when(2, api.CCX, 0, 1, 2), on(api.Reset, 2)), api.OK}, {of(on(api.CX, 0, 1)), []int{1, 0, 2}, of(on(api.CX, 1, 0)), api.OK}, {of(on(api.CZ, 0, 1)), []int{2, 1, 0}, of(on(api.CZ, 2, 1)), api.OK}, {api.Circuit{Wires: 1, Gates: []api.Gate{on(api.H, 0)}}, []int{0}, api.Circuit{Wires: 1, Gates: []api.Gate{on(api.H, 0)}}, api.OK},
		{a, nil, api.Circuit{}, api.ErrMany}, {a, []int{0, 1}, api.Circuit{}, api.ErrMany}, {a, []int{0, 1, 2, 3}, api.Circuit{}, api.ErrMany}, {a, []int{9, 9}, api.Circuit{}, api.ErrMany}, {a, make([]int, 100000), api.Circuit{}, api.ErrMany},
		{a, []int{0, 1, 3}, api.Circuit{}, api.ErrNot}, {a, []int{-1, 0, 1}, api.Circuit{}, api.ErrNot}, {a, []int{0, math.MinInt, 0}, api.Circuit{}, api.ErrNot}, {a, []int{math.MaxInt, 0, 0}, api.Circuit{}, api.ErrNot}, {a, []int{3, 1, 1}, api.Circuit{}, api.ErrNot}, {a, []int{3, 3, 3}, api.Circuit{}, api.ErrNot},
		{a, []int{0, 1, 1}, api.Circuit{}, api.ErrTwice}, {a, []int{1, 0, 1}, api.Circuit{}, api.ErrTwice}, {a, []int{1, 1, 7}, api.Circuit{}, api.ErrTwice}, {a, []int{2, 2, -1}, api.Circuit{}, api.ErrTwice},
		{of(), []int{0, 0, 0}, api.Circuit{}, api.ErrTwice},
	} {
		if d, e := circ.Relabel(x.c, x.wires); e != x.e || !equal(d, x.d) {
			t.Error(i, d, e)
		}
	}
}

func TestWiden(t *testing.T) {
	a := of(on(api.CX, 0, 1), look(2, 1), when(2, api.X, 0))
	for i, x := range []struct {
		wires, bits int
		e           api.Errno
	}{
		{3, 2, api.OK}, {4, 2, api.OK}, {3, 3, api.OK}, {12, 8, api.OK}, {2, 2, api.ErrRange}, {3, 1, api.ErrRange}, {13, 2, api.ErrRange}, {3, 9, api.ErrRange}, {2, 9, api.ErrRange}, {0, 0, api.ErrRange}, {-1, 2, api.ErrRange}, {3, -1, api.ErrRange}, {math.MinInt, 2, api.ErrRange}, {math.MaxInt, 2, api.ErrRange}, {3, math.MinInt, api.ErrRange}, {3, math.MaxInt, api.ErrRange},
	} {
		want := api.Circuit{}
		if x.e == api.OK {
			want = api.Circuit{Wires: x.wires, Bits: x.bits, Gates: a.Gates}
		}
		if d, e := circ.Widen(a, x.wires, x.bits); e != x.e || !equal(d, want) {
			t.Error(i, d, e)
		}
	}
	if d, e := circ.Widen(api.Circuit{Wires: 12, Bits: 8}, 12, 8); e != api.OK || d.Wires != 12 || d.Bits != 8 {
		t.Error(d, e)
	}
}

func TestSlice(t *testing.T) {
	a := of(on(api.CX, 0, 1), look(2, 1), when(2, api.X, 0), on(api.T, 1))
	for from := -2; from < 7; from++ {
		for to := -2; to < 7; to++ {
			want, f := api.Circuit{}, api.ErrRange
			if 0 <= from && from <= to && to <= 4 {
				want, f = of(a.Gates[from:to]...), api.OK
			}
			if d, e := circ.Slice(a, from, to); e != f || !equal(d, want) {
				t.Error(from, to, d, e)
			}
		}
	}
	for _, x := range [][2]int{{math.MinInt, 0}, {0, math.MaxInt}, {math.MaxInt, math.MaxInt}, {math.MaxInt, math.MinInt}, {math.MinInt, math.MinInt}} {
		if d, e := circ.Slice(a, x[0], x[1]); e != api.ErrRange || !equal(d, api.Circuit{}) {
			t.Error(x, d, e)
		}
	}
	if d, e := circ.Slice(many(120), 0, 120); e != api.OK || !equal(d, many(120)) {
		t.Error(e)
	}
}

// P4.3

func TestLooking(t *testing.T) {
	for i, x := range []struct {
		c            api.Circuit
		layers, used []int
	}{
		{of(), nil, nil},
		{of(on(api.H, 0), on(api.CX, 0, 1), on(api.T, 1), on(api.X, 0)), []int{0, 1, 2, 2}, []int{0, 1}},
		{of(on(api.H, 0), on(api.CX, 0, 1), on(api.T, 1), on(api.X, 0), look(2, 1), when(2, api.Z, 0), look(0, 1)), []int{0, 1, 2, 2, 0, 3, 4}, []int{0, 1, 2}},
		// gates that commute meet if they have a wire in common; two that read the same bit do not
		{of(on(api.Z, 2), on(api.Z, 2), when(1, api.X, 0), when(1, api.X, 1)), []int{0, 1, 0, 0}, []int{0, 1, 2}},
		{of(look(0, 0), when(1, api.X, 1), when(2, api.X, 2)), []int{0, 1, 0}, []int{0, 1, 2}},
		{of(when(1, api.X, 1), look(0, 0)), []int{0, 1}, []int{0, 1}}, {of(when(1, api.X, 1), look(0, 1)), []int{0, 0}, []int{0, 1}},
		{of(look(2, 1), look(0, 1)), []int{0, 1}, []int{0, 2}}, {of(look(2, 0), look(0, 1)), []int{0, 0}, []int{0, 2}}, {of(on(api.Reset, 2), on(api.Reset, 2)), []int{0, 1}, []int{2}},
		// no bit is that of gates that neither read nor write one
		{of(look(2, 0), on(api.X, 1), on(api.Reset, 0)), []int{0, 0, 0}, []int{0, 1, 2}},
		// the greatest layer counts, not the last one
		{of(on(api.X, 0), on(api.X, 0), on(api.X, 1), on(api.CX, 0, 1)), []int{0, 1, 0, 2}, []int{0, 1}},
		{of(on(api.CCX, 2, 0, 1), on(api.X, 1)), []int{0, 1}, []int{0, 1, 2}},
	} {
		l, e := circ.Layers(x.c)
		n, f := circ.Depth(x.c)
		u, g := circ.Used(x.c)
		depth := 0
		if len(x.layers) > 0 {
			depth = slices.Max(x.layers) + 1
		}
		if e != api.OK || f != api.OK || g != api.OK || !slices.Equal(l, x.layers) || n != depth || !slices.Equal(u, x.used) {
			t.Error(i, l, n, u, e, f, g)
		}
	}
	if n, e := circ.Depth(many(120)); n != 120 || e != api.OK {
		t.Error(n, e)
	}
	if u, e := circ.Used(api.Circuit{Wires: 12, Gates: []api.Gate{on(api.CCX, 11, 0, 5), on(api.X, 5)}}); e != api.OK || !slices.Equal(u, []int{0, 5, 11}) {
		t.Error(u, e)
	}
}

func TestLookingAsTheModel(t *testing.T) {
	d := draws(2)
	for range 3000 {
		c := d.circuit(3+d.below(3), d.below(4), d.below(12))
		layers := modelLayers(c)
		depth, many, used := 0, [14]int{}, map[int]bool{}
		for i, g := range c.Gates {
			depth = max(depth, layers[i]+1)
			many[g.Kind-1]++
			for _, wire := range g.Wires {
				used[wire] = true
			}
		}
		l, e1 := circ.Layers(c)
		n, e2 := circ.Depth(c)
		k, e3 := circ.Count(c)
		u, e4 := circ.Used(c)
		if !slices.Equal([]api.Errno{e1, e2, e3, e4}, make([]api.Errno, 4)) || !slices.Equal(l, layers) || n != depth || k != many {
			t.Fatal(c, l, n, k, e1, e2, e3, e4)
		}
		if len(u) != len(used) || !slices.IsSorted(u) || slices.ContainsFunc(u, func(wire int) bool { return !used[wire] }) {
			t.Fatal(c, u)
		}
	}
	c := many(120)
	c.Gates[7] = on(api.Reset, 1)
	if k, e := circ.Count(c); k != [14]int{3: 119, 13: 1} || e != api.OK {
		t.Error(k, e)
	}
}

// P4.4 and P4.6: gates that commute, or undo one another, do so for each state, bits and outcomes.

// gates are all right gates of three wires and two bits.
func gates() []api.Gate {
	var l []api.Gate
	put := func(g api.Gate) {
		if modelCheck(of(g)) == api.OK {
			l = append(l, g)
		}
	}
	for kind := api.X; kind <= api.Reset; kind++ {
		for n := range 27 {
			wires := []int{n % 3, n / 3 % 3, n / 9}
			if slices.Max(append(wires[modelArity(kind):], 0)) > 0 {
				continue
			}
			for k := range 6 {
				put(api.Gate{Kind: kind, Wires: wires[:modelArity(kind)], Bit: k % 2, If: k / 2})
			}
		}
	}
	return l
}

func TestAllPairs(t *testing.T) {
	l := gates()
	if len(l) != 8*3*3+3*6*3+6*3+6+3 {
		t.Fatal(len(l))
	}
	empty := of()
	for i, g := range l {
		for k, h := range l {
			c := of(g, h)
			is, e := circ.Commute(c, 0, 1)
			un, f := circ.Undo(c, 0, 1)
			if is != modelCommute(g, h) || un != modelUndo(g, h) || e != api.OK || f != api.OK {
				t.Fatal(g, h, is, un, e, f)
			}
			if k > i {
				continue
			}
			if is && !alike(c, of(h, g)) {
				t.Error("does not commute", g, h)
			}
			if un && !alike(c, empty) {
				t.Error("does not undo", g, h)
			}
		}
	}
}

func TestCommuteAndUndo(t *testing.T) {
	for i, x := range []struct {
		a, b          api.Gate
		commute, undo bool
	}{
		{on(api.T, 0), on(api.CX, 0, 1), true, false}, {on(api.X, 1), on(api.CX, 0, 1), true, false}, {on(api.T, 1), on(api.CX, 0, 1), false, false}, {on(api.X, 0), on(api.CX, 0, 1), false, false}, {look(0, 0), on(api.T, 0), true, false}, {look(0, 0), when(1, api.X, 1), false, false}, {look(0, 0), when(2, api.X, 1), true, false},
		{on(api.Y, 0), on(api.Y, 0), true, true}, {on(api.Y, 0), on(api.X, 0), false, false}, {on(api.Y, 0), on(api.CX, 1, 0), false, false}, {on(api.H, 0), on(api.H, 0), true, true}, {on(api.H, 0), on(api.Y, 0), false, false}, {on(api.S, 0), on(api.S, 0), true, false}, {on(api.S, 0), on(api.Sd, 0), true, true}, {on(api.S, 0), on(api.Sd, 1), true, false}, {on(api.S, 0), on(api.Td, 0), true, false}, {on(api.T, 2), on(api.Td, 2), true, true},
		{look(0, 0), look(0, 1), true, false}, {look(0, 0), look(1, 0), false, false}, {look(0, 0), look(0, 0), false, false}, {look(0, 0), on(api.Reset, 0), false, false}, {look(0, 0), on(api.Reset, 1), true, false}, {on(api.Reset, 0), on(api.Reset, 0), false, false}, {on(api.Reset, 0), on(api.Z, 0), false, false}, {look(0, 1), on(api.CX, 0, 2), true, false}, {look(0, 1), on(api.CX, 2, 0), false, false}, {look(0, 1), when(2, api.Z, 0), false, false},
		{on(api.Swap, 0, 1), on(api.Swap, 1, 0), true, true}, {on(api.Swap, 0, 1), on(api.CZ, 1, 0), true, false}, {on(api.Swap, 0, 1), on(api.CZ, 1, 2), false, false}, {on(api.Swap, 0, 1), on(api.Swap, 1, 2), false, false}, {on(api.Swap, 0, 1), on(api.CX, 0, 1), false, false}, {on(api.Swap, 0, 1), on(api.Z, 0), false, false}, {on(api.Swap, 0, 1), on(api.CCX, 0, 1, 2), false, false}, {when(1, api.Swap, 0, 1), when(2, api.CZ, 1, 0), true, false},
		{on(api.CZ, 0, 1), on(api.CZ, 1, 0), true, true}, {on(api.CZ, 0, 1), on(api.CZ, 1, 2), true, false}, {on(api.CX, 0, 1), on(api.CX, 1, 0), false, false}, {on(api.CX, 0, 1), on(api.CX, 0, 2), true, false}, {on(api.CX, 0, 2), on(api.CX, 1, 2), true, false}, {on(api.CX, 0, 1), on(api.CX, 1, 2), false, false}, {on(api.CCX, 0, 1, 2), on(api.CCX, 1, 0, 2), true, true}, {on(api.CCX, 0, 1, 2), on(api.CCX, 2, 1, 0), false, false}, {on(api.CCX, 0, 1, 2), on(api.CX, 0, 2), true, false},
		{when(1, api.X, 0), when(1, api.X, 0), true, true}, {when(1, api.X, 0), when(2, api.X, 0), true, false}, {when(1, api.S, 0), when(1, api.Sd, 0), true, true}, {when(1, api.S, 0), on(api.Sd, 0), true, false}, {when(1, api.CZ, 0, 1), when(1, api.CZ, 1, 0), true, true}, {when(1, api.Z, 0), when(1, api.X, 0), false, false},
	} {
		between := of(x.a, on(api.H, 0), on(api.Swap, 1, 2), x.b)
		for _, y := range [][2]int{{0, 3}, {3, 0}} {
			is, e := circ.Commute(between, y[0], y[1])
			un, f := circ.Undo(between, y[0], y[1])
			if is != x.commute || un != x.undo || e != api.OK || f != api.OK {
				t.Error(i, y, is, un, e, f)
			}
		}
	}
}

func TestNumbersOfGates(t *testing.T) {
	c := of(on(api.X, 0), on(api.S, 1), on(api.Reset, 2), look(0, 0))
	for _, x := range [][2]int{{-1, 0}, {0, -1}, {4, 0}, {0, 4}, {4, 4}, {-1, -1}, {math.MinInt, 0}, {0, math.MinInt}, {math.MaxInt, 0}, {0, math.MaxInt}, {math.MinInt, math.MaxInt}} {
		is, e := circ.Commute(c, x[0], x[1])
		un, f := circ.Undo(c, x[0], x[1])
		if is || un || e != api.ErrNot || f != api.ErrNot {
			t.Error(x, is, un, e, f)
		}
	}
	if _, e := circ.Commute(of(), 0, 0); e != api.ErrNot {
		t.Error(e)
	}
	// a gate and itself
	for i, want := range [][2]bool{{true, true}, {true, false}, {false, false}, {false, false}} {
		is, e := circ.Commute(c, i, i)
		un, f := circ.Undo(c, i, i)
		if is != want[0] || un != want[1] || e != api.OK || f != api.OK {
			t.Error(i, is, un, e, f)
		}
	}
}

// P4.4 and P4.5

func TestTidyAndCancel(t *testing.T) {
	for i, x := range []struct{ c, tidy, cancel api.Circuit }{
		{of(), of(), of()},
		{of(on(api.T, 1), on(api.X, 0)), of(on(api.X, 0), on(api.T, 1)), of(on(api.T, 1), on(api.X, 0))},
		{of(on(api.CX, 0, 1), on(api.T, 0), on(api.H, 0)), of(on(api.T, 0), on(api.CX, 0, 1), on(api.H, 0)), of(on(api.CX, 0, 1), on(api.T, 0), on(api.H, 0))},
		{of(on(api.CX, 0, 1), on(api.T, 0), on(api.CX, 0, 1)), of(on(api.T, 0), on(api.CX, 0, 1), on(api.CX, 0, 1)), of(on(api.T, 0))},
		{of(on(api.X, 0), on(api.H, 0), on(api.X, 0)), of(on(api.X, 0), on(api.H, 0), on(api.X, 0)), of(on(api.X, 0), on(api.H, 0), on(api.X, 0))},
		// by Kind, by Wires, by Bit, by If
		{of(look(1, 1), look(0, 0), on(api.Z, 1)), of(on(api.Z, 1), look(0, 0), look(1, 1)), of(look(1, 1), look(0, 0), on(api.Z, 1))},
		{of(on(api.CX, 1, 2), on(api.CX, 0, 2)), of(on(api.CX, 0, 2), on(api.CX, 1, 2)), of(on(api.CX, 1, 2), on(api.CX, 0, 2))}, {of(on(api.CX, 0, 2), on(api.CX, 0, 1)), of(on(api.CX, 0, 1), on(api.CX, 0, 2)), of(on(api.CX, 0, 2), on(api.CX, 0, 1))},
		{of(look(0, 1), look(0, 0)), of(look(0, 0), look(0, 1)), of(look(0, 1), look(0, 0))}, {of(when(2, api.X, 0), when(1, api.X, 0), on(api.X, 0)), of(on(api.X, 0), when(1, api.X, 0), when(2, api.X, 0)), of(when(2, api.X, 0), when(1, api.X, 0), on(api.X, 0))},
		{of(on(api.CZ, 1, 0), on(api.CZ, 0, 1), on(api.CZ, 1, 0)), of(on(api.CZ, 0, 1), on(api.CZ, 1, 0), on(api.CZ, 1, 0)), of(on(api.CZ, 1, 0))},
		{of(on(api.Reset, 2), look(0, 0), on(api.Reset, 0)), of(look(0, 0), on(api.Reset, 0), on(api.Reset, 2)), of(on(api.Reset, 2), look(0, 0), on(api.Reset, 0))},
		// a gate may pass one that is greater only if it passes all between them, too
		{of(on(api.H, 0), on(api.X, 0), on(api.X, 1)), of(on(api.X, 1), on(api.H, 0), on(api.X, 0)), of(on(api.H, 0), on(api.X, 0), on(api.X, 1))},
		// wires may have changed places
		{of(on(api.Swap, 0, 1), on(api.CZ, 1, 0), on(api.Swap, 1, 0)), of(on(api.CZ, 1, 0), on(api.Swap, 0, 1), on(api.Swap, 1, 0)), of(on(api.CZ, 1, 0))}, {of(on(api.CCX, 2, 1, 0), on(api.S, 1), on(api.CCX, 1, 2, 0)), of(on(api.S, 1), on(api.CCX, 1, 2, 0), on(api.CCX, 2, 1, 0)), of(on(api.S, 1))}, {of(on(api.CX, 0, 1), on(api.CX, 1, 0)), of(on(api.CX, 0, 1), on(api.CX, 1, 0)), of(on(api.CX, 0, 1), on(api.CX, 1, 0))},
		// the last one that undoes a gate is taken out, and one that does not commute stands in the way
		{of(on(api.T, 0), on(api.Z, 0), on(api.T, 0), on(api.Td, 0)), of(on(api.Z, 0), on(api.T, 0), on(api.T, 0), on(api.Td, 0)), of(on(api.T, 0), on(api.Z, 0))},
		{of(on(api.CZ, 0, 1), on(api.CZ, 1, 0), on(api.H, 2), on(api.CZ, 0, 1)), of(on(api.H, 2), on(api.CZ, 0, 1), on(api.CZ, 0, 1), on(api.CZ, 1, 0)), of(on(api.H, 2), on(api.CZ, 0, 1))},
		{of(on(api.S, 0), on(api.S, 0), on(api.H, 1), on(api.Sd, 0), on(api.H, 1)), of(on(api.H, 1), on(api.H, 1), on(api.S, 0), on(api.S, 0), on(api.Sd, 0)), of(on(api.S, 0))},
		{of(on(api.H, 0), on(api.S, 1), on(api.X, 0), on(api.Sd, 1), on(api.X, 0), on(api.H, 0)), of(on(api.H, 0), on(api.X, 0), on(api.X, 0), on(api.H, 0), on(api.S, 1), on(api.Sd, 1)), of()},
		{of(on(api.X, 0), look(0, 0), on(api.X, 0)), of(on(api.X, 0), look(0, 0), on(api.X, 0)), of(on(api.X, 0), look(0, 0), on(api.X, 0))}, {of(on(api.Z, 0), look(0, 0), on(api.Z, 0)), of(on(api.Z, 0), on(api.Z, 0), look(0, 0)), of(look(0, 0))}, {of(when(1, api.X, 1), look(0, 0), when(1, api.X, 1)), of(when(1, api.X, 1), look(0, 0), when(1, api.X, 1)), of(when(1, api.X, 1), look(0, 0), when(1, api.X, 1))}, {of(when(2, api.X, 1), look(0, 0), when(2, api.X, 1)), of(when(2, api.X, 1), when(2, api.X, 1), look(0, 0)), of(look(0, 0))},
		{of(look(0, 0), look(0, 0)), of(look(0, 0), look(0, 0)), of(look(0, 0), look(0, 0))}, {of(on(api.Reset, 0), on(api.Reset, 0)), of(on(api.Reset, 0), on(api.Reset, 0)), of(on(api.Reset, 0), on(api.Reset, 0))},
		{many(120), many(120), of()}, {many(119), many(119), many(1)},
	} {
		a, e := circ.Tidy(x.c)
		b, f := circ.Cancel(x.c)
		if e != api.OK || f != api.OK || !equal(a, x.tidy) || !equal(b, x.cancel) {
			t.Error(i, a, b, e, f)
		}
	}
}

func TestTidyAndCancelAsTheModel(t *testing.T) {
	d := draws(3)
	cancelled := 0
	for range 4000 {
		c := d.someCircuit(d.below(16))
		a, e := circ.Tidy(c)
		b, f := circ.Cancel(c)
		if e != api.OK || f != api.OK || !equal(a, modelTidy(c)) || !equal(b, modelCancel(c)) {
			t.Fatal(c, a, b, e, f)
		}
		if len(b.Gates) > 0 && len(b.Gates) < len(c.Gates) {
			cancelled++
		}
	}
	if cancelled < 500 {
		t.Error(cancelled)
	}
	for range 20 {
		c := d.circuit(12, 8, 120)
		a, _ := circ.Tidy(c)
		b, _ := circ.Cancel(c)
		if !equal(a, modelTidy(c)) || !equal(b, modelCancel(c)) {
			t.Fatal(c)
		}
	}
}

// someCircuit has gates of few kinds, of all kinds, or of those that change no basis state, so that much commutes, and much undoes something.
func (d *draws) someCircuit(gates int) api.Circuit {
	var kinds []int
	switch d.below(4) {
	case 0:
		kinds = []int{api.S, api.Sd, api.T, api.Td, api.CX, api.CZ, api.Measure}
	case 1:
		kinds = []int{api.X, api.CX, api.CCX, api.Reset, api.Z}
	case 2:
		kinds = []int{api.H, api.CZ, api.Swap, api.Y, api.X}
	}
	return d.circuit(3, d.below(3), gates, kinds...)
}

func TestEqual(t *testing.T) {
	a := of(on(api.T, 1), on(api.X, 0))
	for i, x := range []struct {
		c, d api.Circuit
		is   bool
	}{
		{of(), of(), true}, {a, of(on(api.X, 0), on(api.T, 1)), true}, {a, a, true}, {a, of(on(api.X, 0)), false}, {of(), a, false}, {of(on(api.X, 0), on(api.H, 0)), of(on(api.H, 0), on(api.X, 0)), false},
		{of(on(api.CX, 0, 1), on(api.T, 0), on(api.H, 0)), of(on(api.T, 0), on(api.CX, 0, 1), on(api.H, 0)), true}, {of(look(0, 0), look(0, 1)), of(look(0, 1), look(0, 0)), true}, {of(look(0, 0), look(1, 0)), of(look(1, 0), look(0, 0)), false}, {of(look(0, 0), when(1, api.X, 1)), of(when(1, api.X, 1), look(0, 0)), false},
		// only the same gates are the same, whatever they do
		{of(on(api.CZ, 0, 1)), of(on(api.CZ, 1, 0)), false}, {of(on(api.T, 0), on(api.T, 0)), of(on(api.S, 0)), false}, {of(on(api.X, 0), on(api.X, 0)), of(), false}, {of(when(1, api.X, 0)), of(when(2, api.X, 0)), false},
		{of(), api.Circuit{Wires: 4, Bits: 2}, false}, {of(), api.Circuit{Wires: 3, Bits: 1}, false}, {a, api.Circuit{Wires: 3, Bits: 3, Gates: a.Gates}, false},
	} {
		for _, y := range [][2]api.Circuit{{x.c, x.d}, {x.d, x.c}} {
			if is, e := circ.Equal(y[0], y[1]); is != x.is || e != api.OK {
				t.Error(i, is, e)
			}
		}
	}
	for _, x := range []struct {
		c, d api.Circuit
		e    api.Errno
	}{{of(on(0)), many(121), api.ErrRange}, {many(121), of(on(0)), api.ErrMany}, {a, of(on(api.CX, 0, 0)), api.ErrTwice}, {api.Circuit{Wires: 1}, of(on(api.H, 3)), api.ErrNot}} {
		if is, e := circ.Equal(x.c, x.d); is || e != x.e {
			t.Error(is, e, x.e)
		}
	}
}

// P4.6

// TestOrderDoesNotMatter changes the places of neighbours that commute.
func TestOrderDoesNotMatter(t *testing.T) {
	d := draws(4)
	moved := 0
	for range 2000 {
		c := d.someCircuit(2 + d.below(12))
		other := clone(c)
		for range 40 {
			i := d.below(len(c.Gates) - 1)
			if is, _ := circ.Commute(other, i, i+1); is {
				other.Gates[i], other.Gates[i+1] = other.Gates[i+1], other.Gates[i]
			}
		}
		if !equal(c, other) {
			moved++
		}
		a, e := circ.Tidy(c)
		b, f := circ.Tidy(other)
		is, h := circ.Equal(c, other)
		again, g := circ.Tidy(a)
		if e != api.OK || f != api.OK || g != api.OK || h != api.OK || !is || !equal(a, b) || !equal(a, again) {
			t.Fatal(c, other, a, b, again, is)
		}
	}
	if moved < 1500 {
		t.Error(moved)
	}
}

func TestMeaningIsKept(t *testing.T) {
	d := draws(5)
	changed := 0
	for range 600 {
		c := few(d.someCircuit(3+d.below(8)), 4)
		a, _ := circ.Tidy(c)
		b, _ := circ.Cancel(c)
		if len(b.Gates) < len(c.Gates) && !equal(a, c) {
			changed++
		}
		if !alike(c, a) || !alike(c, b) {
			t.Fatal(c, a, b)
		}
	}
	if changed < 100 {
		t.Error(changed)
	}
}

func TestCancelAgain(t *testing.T) {
	d := draws(6)
	for range 3000 {
		c := d.someCircuit(d.below(30))
		a, e := circ.Cancel(c)
		again, f := circ.Cancel(a)
		less := len(c.Gates) - len(a.Gates)
		if e != api.OK || f != api.OK || less < 0 || less%2 != 0 || !equal(a, again) {
			t.Fatal(c, a, again)
		}
	}
}

func TestInverses(t *testing.T) {
	d := draws(7)
	for range 1000 {
		kinds := plainKinds()
		c, b := d.circuit(4, 0, d.below(61), kinds...), d.circuit(4, 0, d.below(61), kinds...)
		back, _ := circ.Inverse(c)
		again, _ := circ.Inverse(back)
		both, e := circ.Compose(c, back)
		nothing, f := circ.Cancel(both)
		if !equal(c, again) || e != api.OK || f != api.OK || len(nothing.Gates) != 0 {
			t.Fatal(c, back, again, nothing)
		}
		backB, _ := circ.Inverse(b)
		cb, _ := circ.Compose(c, b)
		left, _ := circ.Inverse(cb)
		right, _ := circ.Compose(backB, back)
		if !equal(left, right) {
			t.Fatal(c, b, left, right)
		}
	}
	for range 100 {
		c := d.circuit(3, 0, 6, plainKinds()...)
		back, _ := circ.Inverse(c)
		both, _ := circ.Compose(c, back)
		if !alike(both, api.Circuit{Wires: 3}) {
			t.Fatal(c, back)
		}
	}
}

func TestNoTwoGatesOfALayerMeet(t *testing.T) {
	d := draws(8)
	for range 1000 {
		c := d.circuit(3+d.below(8), 1+d.below(3), d.below(30))
		layers, _ := circ.Layers(c)
		depth, _ := circ.Depth(c)
		found := map[int]bool{}
		for j, g := range c.Gates {
			found[layers[j]] = true
			for i, h := range c.Gates[:j] {
				if layers[i] == layers[j] && modelMeet(g, h) {
					t.Fatal(c, i, j)
				}
			}
		}
		if len(found) != depth {
			t.Fatal(c, layers, depth)
		}
	}
}

func TestRelabelBack(t *testing.T) {
	d := draws(9)
	for range 1000 {
		n := 3 + d.below(10)
		c := d.circuit(n, d.below(3), d.below(20))
		var to []int
		for len(to) < n {
			if wire := d.below(n); !slices.Contains(to, wire) {
				to = append(to, wire)
			}
		}
		converse := make([]int, n)
		for i, wire := range to {
			converse[wire] = i
		}
		there, e := circ.Relabel(c, to)
		back, f := circ.Relabel(there, converse)
		if e != api.OK || f != api.OK || !equal(c, back) {
			t.Fatal(c, to, there, back)
		}
		for i, g := range there.Gates {
			for k, wire := range c.Gates[i].Wires {
				if g.Wires[k] != to[wire] {
					t.Fatal(c, to, there)
				}
			}
		}
	}
}

// R4 and R5

// made are the circuits that are made of two others.
func made(c, d api.Circuit) []api.Circuit {
	compose, _ := circ.Compose(c, d)
	inverse, _ := circ.Inverse(c)
	relabel, _ := circ.Relabel(c, []int{2, 0, 1})
	widen, _ := circ.Widen(c, 4, 2)
	slice, _ := circ.Slice(c, 1, 5)
	tidy, _ := circ.Tidy(c)
	cancel, _ := circ.Cancel(c)
	return []api.Circuit{compose, inverse, relabel, widen, slice, tidy, cancel}
}

// filled has gates with room behind their wires, and wires of one memory.
func filled() api.Circuit {
	room := []int{0, 1, 2, 1, 0, 2, 2, 1, 0}
	c := of()
	for i := range 3 {
		c.Gates = append(c.Gates, api.Gate{Kind: api.CCX, Wires: room[3*i : 3*i+3]}, api.Gate{Kind: api.CX, Wires: room[3*i : 3*i+2]}, api.Gate{Kind: api.T, Wires: room[3*i : 3*i+1]})
	}
	return c
}

func TestMemory(t *testing.T) {
	a, b := filled(), filled()
	wanted := made(clone(a), clone(b))
	results := made(a, b)
	layers, _ := circ.Layers(a)
	used, _ := circ.Used(a)
	for i, c := range results {
		if len(c.Gates) == 0 || !equal(c, wanted[i]) {
			t.Fatal(i, c)
		}
	}
	for i, c := range results {
		for k := range c.Gates {
			_ = append(c.Gates[k].Wires, 99, 99, 99)
		}
		if !equal(c, wanted[i]) {
			t.Error("gates share room", i)
		}
		_ = append(c.Gates, on(99))
		for k := range c.Gates {
			for j := range c.Gates[k].Wires {
				c.Gates[k].Wires[j] = 50
			}
			c.Gates[k] = on(99)
		}
		for j := i + 1; j < len(results); j++ {
			if !equal(results[j], wanted[j]) {
				t.Error("results share memory", i, j)
			}
		}
		if !equal(a, filled()) || !equal(b, filled()) {
			t.Fatal("an argument is changed", i)
		}
	}
	for i := range layers {
		layers[i] = 99
	}
	for i := range used {
		used[i] = 99
	}
	again, _ := circ.Layers(a)
	whole, _ := circ.Used(a)
	if !equal(a, filled()) || !slices.Equal(again, modelLayers(a)) || !slices.Equal(whole, []int{0, 1, 2}) {
		t.Error(again, whole)
	}
}

func TestWiresOfRelabelStay(t *testing.T) {
	to := []int{2, 0, 1}
	c, _ := circ.Relabel(filled(), to)
	c.Gates[0].Wires[0] = 99
	if !slices.Equal(to, []int{2, 0, 1}) {
		t.Error(to)
	}
}

// P0.1

// TestAnything asks all functions about circuits of any numbers.
func TestAnything(t *testing.T) {
	d := draws(10)
	numbers := []int{math.MinInt, math.MinInt + 1, -1, 0, 1, 2, 3, 7, 8, 9, 12, 13, 14, 15, 119, 120, 121, 1 << 32, math.MaxInt - 1, math.MaxInt}
	odd := func() int { return numbers[d.below(len(numbers))] }
	small := func() int {
		if d.below(10) == 0 {
			return odd()
		}
		return d.below(4)
	}
	draw := func() api.Circuit {
		c := api.Circuit{Wires: small(), Bits: small()}
		for range d.below(4) {
			g := api.Gate{Kind: 1 + d.below(14), Bit: small(), If: small()}
			if d.below(8) == 0 {
				g.Kind = odd()
			}
			for range d.below(4) {
				g.Wires = append(g.Wires, small())
			}
			c.Gates = append(c.Gates, g)
		}
		return c
	}
	for range 20000 {
		c, b := draw(), draw()
		want := modelCheck(c)
		for name, do := range calls() {
			if _, e := do(c); want != api.OK && e != want {
				t.Fatal(name, c, e, want)
			}
		}
		if want == api.OK {
			want = modelCheck(b)
		}
		if is, e := circ.Equal(c, b); e != want || is && want != api.OK {
			t.Fatal(c, b, is, e)
		}
		circ.Compose(c, b)
		circ.Same(c, b)
		circ.Relabel(c, []int{small(), small(), small()})
		circ.Widen(c, odd(), odd())
		circ.Slice(c, odd(), odd())
		circ.Commute(c, odd(), odd())
		circ.Undo(c, odd(), odd())
		circ.Arity(odd())
	}
}
