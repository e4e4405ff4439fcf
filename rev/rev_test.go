package rev_test

import (
	"math"
	"slices"
	"testing"

	"spoondrift/api"
	"spoondrift/circ"
	"spoondrift/rev"
)

func gate(kind int, wires ...int) api.Gate { return api.Gate{Kind: kind, Wires: wires} }

func x(i int) api.Gate { return gate(api.X, i) }

func cx(i, k int) api.Gate { return gate(api.CX, i, k) }

func ccx(i, j, k int) api.Gate { return gate(api.CCX, i, j, k) }

func swap(i, k int) api.Gate { return gate(api.Swap, i, k) }

func circuit(wires int, l ...api.Gate) api.Circuit { return api.Circuit{Wires: wires, Gates: l} }

func withBits(bits int, c api.Circuit) api.Circuit {
	c.Bits = bits
	return c
}

// v is a variable, of an expression made of others.
func v(k int) api.Bool { return api.Bool{Kind: rev.Var, Var: k} }

func of(kind int, args ...api.Bool) api.Bool { return api.Bool{Kind: kind, Args: args} }

// xs is a circuit of so many X on one wire.
func xs(many int) api.Circuit { return circuit(1, slices.Repeat([]api.Gate{x(0)}, many)...) }

func isNothing(c api.Circuit) bool { return circ.Same(c, api.Circuit{}) }

// P8.1

// asks are the functions that have a circuit, with other arguments that would be an error, too, if they have some; they tell whether the results are zero.
func asks() map[string]func(api.Circuit) (bool, api.Errno) {
	isNumber := func(n int, e api.Errno) (bool, api.Errno) { return n == 0, e }
	isFalse := func(is bool, e api.Errno) (bool, api.Errno) { return !is, e }
	return map[string]func(api.Circuit) (bool, api.Errno){
		"Check": func(c api.Circuit) (bool, api.Errno) { return true, rev.Check(c) },
		"Apply": func(c api.Circuit) (bool, api.Errno) { return isNumber(rev.Apply(c, -1)) },
		"Table": func(c api.Circuit) (bool, api.Errno) {
			l, e := rev.Table(c)
			return len(l) == 0, e
		},
		"Same c":   func(c api.Circuit) (bool, api.Errno) { return isFalse(rev.Same(c, circuit(99))) },
		"Same d":   func(c api.Circuit) (bool, api.Errno) { return isFalse(rev.Same(circuit(12), c)) },
		"Clean":    func(c api.Circuit) (bool, api.Errno) { return isNumber(rev.Clean(c, []int{-1, -1})) },
		"Borrowed": func(c api.Circuit) (bool, api.Errno) { return isNumber(rev.Borrowed(c, []int{-1, -1})) },
		"Keep": func(c api.Circuit) (bool, api.Errno) {
			d, e := rev.Keep(c, slices.Repeat([]int{-1}, 99))
			return isNothing(d), e
		},
	}
}

func TestErrorsOfCheck(t *testing.T) {
	steered := func(g api.Gate) api.Gate {
		g.If = 1
		return g
	}
	list := []struct {
		c api.Circuit
		e api.Errno
	}{
		{circuit(0), api.ErrRange}, {circuit(13), api.ErrRange}, {circuit(-1), api.ErrRange}, {circuit(math.MaxInt), api.ErrRange}, {circuit(math.MinInt), api.ErrRange}, {withBits(9, circuit(1)), api.ErrRange}, {withBits(-1, circuit(1)), api.ErrRange},
		{xs(121), api.ErrMany}, {circuit(2, gate(0, 0)), api.ErrRange}, {circuit(2, gate(15, 0)), api.ErrRange}, {circuit(2, gate(math.MinInt)), api.ErrRange}, {circuit(2, gate(api.CX, 0)), api.ErrMany}, {circuit(2, gate(api.X)), api.ErrMany}, {circuit(3, gate(api.CCX, 0, 1)), api.ErrMany},
		{circuit(2, cx(0, 2)), api.ErrNot}, {circuit(2, swap(-1, 0)), api.ErrNot}, {circuit(3, ccx(0, 1, 3)), api.ErrNot}, {circuit(2, swap(1, 1)), api.ErrTwice}, {circuit(3, ccx(0, 1, 0)), api.ErrTwice}, {circuit(1, steered(x(0))), api.ErrNot}, {circuit(1, api.Gate{Kind: api.X, Wires: []int{0}, Bit: 1}), api.ErrClash},
		{withBits(1, circuit(1, steered(x(0)))), api.ErrClash}, {withBits(8, circuit(2, steered(cx(0, 1)))), api.ErrClash}, {withBits(1, circuit(2, x(0), steered(swap(0, 1)))), api.ErrClash}, {withBits(1, circuit(3, x(0), steered(ccx(0, 1, 2)), x(0))), api.ErrClash},
		{withBits(1, circuit(1, gate(api.Measure, 0))), api.ErrClash}, {circuit(1, gate(api.Reset, 0)), api.ErrClash}, {circuit(2, cx(0, 1), gate(api.CZ, 0, 1)), api.ErrClash},
		// an error of circ.Check comes first, even behind
		{circuit(2, gate(api.H, 0), swap(0, 0)), api.ErrTwice}, {circuit(2, gate(api.T, 0), cx(0, -1)), api.ErrNot}, {withBits(9, circuit(2, gate(api.H, 0))), api.ErrRange}, {circuit(1, gate(api.Measure, 0)), api.ErrNot},
	}
	for _, kind := range []int{api.Y, api.Z, api.H, api.S, api.Sd, api.T, api.Td} {
		list = append(list, struct {
			c api.Circuit
			e api.Errno
		}{circuit(2, x(1), gate(kind, 0), x(0)), api.ErrClash})
	}
	for i, y := range list {
		for name, ask := range asks() {
			if zero, e := ask(y.c); !zero || e != y.e {
				t.Error(i, name, zero, e)
			}
		}
	}
	for i, c := range []api.Circuit{circuit(1), circuit(12), withBits(8, circuit(1)), xs(120), circuit(3, x(2), cx(2, 0), swap(1, 0), ccx(2, 1, 0))} {
		if e := rev.Check(c); e != api.OK {
			t.Error(i, e)
		}
	}
}

func TestTwoCircuits(t *testing.T) {
	// the first circuit is asked before the second one, and both before whether they go together
	large, other, twice := circuit(13), circuit(2, gate(api.H, 0)), circuit(2, cx(0, 0))
	for i, y := range []struct {
		c, d api.Circuit
		is   bool
		e    api.Errno
	}{
		{large, other, false, api.ErrRange}, {other, large, false, api.ErrClash}, {twice, other, false, api.ErrTwice}, {circuit(3), twice, false, api.ErrTwice}, {circuit(3), other, false, api.ErrClash}, {circuit(3), large, false, api.ErrRange},
		{circuit(1), circuit(2), false, api.ErrClash}, {circuit(12), circuit(11), false, api.ErrClash},
		{circuit(2), circuit(2), true, api.OK}, {withBits(3, circuit(2, x(0))), circuit(2, x(0)), true, api.OK}, {circuit(1), xs(120), true, api.OK}, {circuit(1), xs(119), false, api.OK},
		{circuit(2, swap(0, 1)), circuit(2, swap(1, 0)), true, api.OK}, {circuit(2, swap(0, 1)), circuit(2, cx(0, 1), cx(1, 0), cx(0, 1)), true, api.OK}, {circuit(2, cx(0, 1)), circuit(2, cx(1, 0)), false, api.OK},
		{circuit(3, ccx(0, 1, 2)), circuit(3, ccx(1, 0, 2)), true, api.OK}, {circuit(3, ccx(0, 1, 2)), circuit(3), false, api.OK}, {circuit(12, ccx(11, 10, 9)), circuit(12), false, api.OK},
	} {
		if is, e := rev.Same(y.c, y.d); is != y.is || e != y.e {
			t.Error(i, is, e)
		}
	}
	var d draws
	for i := range 200 {
		c, other := d.circuit(1+i%4, d.below(4)), d.circuit(1+i%4, d.below(4))
		if is, e := rev.Same(c, other); e != api.OK || is != slices.Equal(modelTable(c), modelTable(other)) {
			t.Fatal(c, other, is, e)
		}
	}
}

func TestFirstExample(t *testing.T) {
	for i, y := range []struct {
		c    api.Circuit
		want []int
	}{
		{circuit(2, cx(0, 1)), []int{0, 3, 2, 1}}, {circuit(2, cx(1, 0)), []int{0, 1, 3, 2}}, {circuit(2, swap(0, 1)), []int{0, 2, 1, 3}}, {circuit(1, x(0)), []int{1, 0}}, {circuit(1), []int{0, 1}}, {circuit(2, x(0), cx(0, 1)), []int{3, 0, 1, 2}},
		{circuit(3, ccx(0, 1, 2)), []int{0, 1, 2, 7, 4, 5, 6, 3}}, {circuit(3, ccx(0, 2, 1)), []int{0, 1, 2, 3, 4, 7, 6, 5}}, {circuit(3, ccx(2, 1, 0)), []int{0, 1, 2, 3, 4, 5, 7, 6}},
	} {
		if l, e := rev.Table(y.c); e != api.OK || !slices.Equal(l, y.want) {
			t.Error(i, l, e)
		}
	}
	if n, e := rev.Apply(circuit(3, ccx(0, 1, 2)), 3); e != api.OK || n != 7 {
		t.Error(n, e)
	}
}

// TestTables asks for tables of drawn circuits, and of those at the limits.
func TestTables(t *testing.T) {
	var d draws
	list := []api.Circuit{d.circuit(12, 120), d.circuit(12, 0), d.circuit(1, 120)}
	for i := range 150 {
		list = append(list, withBits(i%9, d.circuit(1+i%9, d.below(30))))
	}
	for _, c := range list {
		want := modelTable(c)
		if l, e := rev.Table(c); e != api.OK || !slices.Equal(l, want) {
			t.Fatal(c, l, e)
		}
		for state := 0; state < len(want); state += 1 + len(want)/64 {
			if n, e := rev.Apply(c, state); e != api.OK || n != want[state] {
				t.Fatal(c, state, n, e)
			}
		}
		if n, e := rev.Apply(c, len(want)-1); e != api.OK || n != want[len(want)-1] {
			t.Fatal(c, n, e)
		}
		for _, state := range []int{-1, len(want), math.MaxInt, math.MinInt} {
			if n, e := rev.Apply(c, state); e != api.ErrRange || n != 0 {
				t.Fatal(c, state, n, e)
			}
		}
	}
}

// P8.2

// permutes are the functions that have a permutation; they tell whether the results are zero.
func permutes() map[string]func([]int) (bool, api.Errno) {
	return map[string]func([]int) (bool, api.Errno){
		"Wide": func(p []int) (bool, api.Errno) {
			n, e := rev.Wide(p)
			return n == 0, e
		},
		"Circuit": func(p []int) (bool, api.Errno) {
			c, e := rev.Circuit(p)
			return isNothing(c), e
		},
		"Shortest": func(p []int) (bool, api.Errno) {
			c, e := rev.Shortest(p, -1)
			return isNothing(c), e
		},
		"Cycles": func(p []int) (bool, api.Errno) {
			l, e := rev.Cycles(p)
			return len(l) == 0, e
		},
		"Even": func(p []int) (bool, api.Errno) {
			is, e := rev.Even(p)
			return !is, e
		},
	}
}

func TestErrorsOfWide(t *testing.T) {
	for i, y := range []struct {
		p []int
		e api.Errno
	}{
		{nil, api.ErrMany}, {[]int{}, api.ErrMany}, {[]int{0}, api.ErrMany}, {[]int{0, 1, 2}, api.ErrMany}, {[]int{0, 1, 2, 3, 4}, api.ErrMany}, {[]int{0, 1, 2, 3, 4, 5}, api.ErrMany}, {[]int{0, 1, 2, 3, 4, 5, 6}, api.ErrMany}, {make([]int, 9), api.ErrMany}, {make([]int, 16), api.ErrMany}, {make([]int, 4096), api.ErrMany}, {[]int{-1, -1, 5}, api.ErrMany},
		{[]int{0, 2}, api.ErrRange}, {[]int{-1, 0}, api.ErrRange}, {[]int{0, 1, 2, 4}, api.ErrRange}, {[]int{0, 1, 2, 3, 4, 5, 6, 8}, api.ErrRange}, {[]int{math.MaxInt, 0}, api.ErrRange}, {[]int{1, math.MinInt}, api.ErrRange}, {[]int{64, 65, 66, 67}, api.ErrRange},
		// the range of all is asked for before what comes twice
		{[]int{0, 0, 0, -1}, api.ErrRange}, {[]int{3, 3, 4, 0}, api.ErrRange}, {[]int{1, 1, 1, 1, 1, 1, 1, 9}, api.ErrRange},
		{[]int{1, 1}, api.ErrTwice}, {[]int{0, 0}, api.ErrTwice}, {[]int{0, 1, 2, 0}, api.ErrTwice}, {[]int{0, 1, 2, 3, 4, 5, 6, 6}, api.ErrTwice}, {make([]int, 8), api.ErrTwice},
	} {
		for name, ask := range permutes() {
			if zero, e := ask(y.p); !zero || e != y.e {
				t.Error(i, name, zero, e)
			}
		}
	}
	for wires := 1; wires <= 3; wires++ {
		p := modelTable(circuit(wires))
		if n, e := rev.Wide(p); e != api.OK || n != wires {
			t.Error(wires, n, e)
		}
	}
}

func TestSecondExample(t *testing.T) {
	for i, y := range []struct {
		p    []int
		want api.Circuit
	}{
		{[]int{0, 3, 2, 1}, circuit(2, cx(0, 1))}, {[]int{1, 0}, circuit(1, x(0))}, {[]int{0, 2, 1, 3}, circuit(2, cx(1, 0), cx(0, 1), cx(1, 0))},
		{[]int{0, 1}, circuit(1)}, {[]int{0, 1, 2, 3, 4, 5, 6, 7}, circuit(3)}, {[]int{7, 6, 5, 4, 3, 2, 1, 0}, circuit(3, x(2), x(1), x(0))}, {[]int{0, 1, 2, 7, 4, 5, 6, 3}, circuit(3, ccx(0, 1, 2))},
	} {
		if c, e := rev.Circuit(y.p); e != api.OK || !circ.Same(c, y.want) {
			t.Error(i, c, e)
		}
	}
	l, e := rev.Cycles([]int{0, 2, 1, 3})
	if e != api.OK || !slices.EqualFunc(l, [][]int{{1, 2}}, slices.Equal) {
		t.Error(l, e)
	}
	if is, e := rev.Even([]int{0, 2, 1, 3}); e != api.OK || is {
		t.Error(is, e)
	}
}

// TestAllPermutations goes through all permutations of up to three wires.
func TestAllPermutations(t *testing.T) {
	for wires := 1; wires <= 3; wires++ {
		many := 0
		permutations(1<<wires, func(p []int) {
			many++
			c, e := rev.Circuit(p)
			if e != api.OK || !circ.Same(c, modelCircuit(p)) || !slices.Equal(modelTable(c), p) || rev.Check(c) != api.OK {
				t.Fatal(p, c, e)
			}
			l, e := rev.Cycles(p)
			if e != api.OK || !slices.EqualFunc(l, modelCycles(p), slices.Equal) {
				t.Fatal(p, l, e)
			}
			if is, e := rev.Even(p); e != api.OK || is != modelEven(p) {
				t.Fatal(p, is, e)
			}
			if n, e := rev.Wide(p); e != api.OK || n != wires {
				t.Fatal(p, n, e)
			}
		})
		if many != map[int]int{1: 2, 2: 24, 3: 40320}[wires] {
			t.Error(wires, many)
		}
	}
}

// P8.3

func TestThirdExample(t *testing.T) {
	for gates, want := range []int{1, 12, 102} {
		if n, e := rev.Count(3, gates); e != api.OK || n != want {
			t.Error(gates, n, e)
		}
	}
	exchange := []int{0, 2, 1, 3}
	if c, e := rev.Shortest(exchange, 2); e != api.ErrNone || !isNothing(c) {
		t.Error(c, e)
	}
	if c, e := rev.Shortest(exchange, 3); e != api.OK || len(c.Gates) != 3 || !slices.Equal(modelTable(c), exchange) {
		t.Error(c, e)
	}
}

func TestErrorsOfLeast(t *testing.T) {
	for _, most := range []int{-1, 5, math.MaxInt, math.MinInt} {
		if c, e := rev.Shortest([]int{0, 1}, most); e != api.ErrRange || !isNothing(c) {
			t.Error(most, c, e)
		}
		if c, e := rev.Shortest([]int{0, 0}, most); e != api.ErrTwice || !isNothing(c) {
			t.Error(most, c, e)
		}
		for wires := 1; wires <= 3; wires++ {
			if n, e := rev.Count(wires, most); e != api.ErrRange || n != 0 {
				t.Error(wires, most, n, e)
			}
		}
	}
	for _, wires := range []int{0, 4, -1, 12, math.MaxInt, math.MinInt} {
		for _, gates := range []int{0, 4, -1, 5} {
			if n, e := rev.Count(wires, gates); e != api.ErrMany || n != 0 {
				t.Error(wires, gates, n, e)
			}
		}
	}
}

// TestLeastNumbers compares with all words of up to four gates: none makes a permutation with fewer gates than Shortest, and all that they make are counted.
func TestLeastNumbers(t *testing.T) {
	for wires := 1; wires <= 3; wires++ {
		need := modelNeed(wires)
		all := 0
		for gates := range rev.MaxLeast + 1 {
			want := 0
			for _, n := range need {
				if n == gates {
					want++
				}
			}
			n, e := rev.Count(wires, gates)
			if e != api.OK || n != want {
				t.Error(wires, gates, n, want, e)
			}
			all += n
		}
		if all != len(need) {
			t.Error(wires, all, len(need))
		}
		at := 0
		permutations(1<<wires, func(p []int) {
			at++
			gates, ok := need[key(p)]
			sampled := wires < 3 || at%97 < 2
			for most := range rev.MaxLeast + 1 {
				if !sampled && (!ok || most != gates) {
					continue
				}
				c, e := rev.Shortest(p, most)
				switch {
				case !ok || most < gates:
					if e != api.ErrNone || !isNothing(c) {
						t.Fatal(p, most, c, e)
					}
				case e != api.OK || len(c.Gates) != gates || c.Wires != wires || c.Bits != 0 || !slices.Equal(modelTable(c), p):
					t.Fatal(p, most, c, e)
				}
				if many, e := circ.Count(c); e == api.OK && many[api.Swap-1] > 0 {
					t.Fatal(p, most, c)
				}
			}
		})
	}
}

// TestCountsAddUp counts all permutations of one wire and of two: none of them needs more than four gates.
func TestCountsAddUp(t *testing.T) {
	for wires, want := range map[int][]int{1: {1, 1, 0, 0, 0}, 2: {1, 4, 9, 7, 3}} {
		all := 0
		for gates, many := range want {
			n, e := rev.Count(wires, gates)
			if e != api.OK || n != many {
				t.Error(wires, gates, n, e)
			}
			all += n
		}
		if all != map[int]int{1: 2, 2: 24}[wires] {
			t.Error(wires, all)
		}
	}
}

// P8.4

// deep puts an expression into so many And within one another.
func deep(many int, e api.Bool) api.Bool {
	for range many {
		e = of(rev.And, e, v(0))
	}
	return e
}

// long returns Not of Not and so on, of this size.
func long(size int) api.Bool {
	e := v(0)
	for range size - 1 {
		e = of(rev.Not, e)
	}
	return e
}

// looped returns an expression that has itself among its Args.
func looped(kind int) api.Bool {
	args := make([]api.Bool, 2)
	e := of(kind, args...)
	args[0], args[1] = e, e
	return e
}

// bools are the functions that have an expression, with an x that would be an error, too; they tell whether the results are zero.
func bools() map[string]func(api.Bool, int) (bool, api.Errno) {
	return map[string]func(api.Bool, int) (bool, api.Errno){
		"Good": func(e api.Bool, vars int) (bool, api.Errno) { return true, rev.Good(e, vars) },
		"Eval": func(e api.Bool, vars int) (bool, api.Errno) {
			is, wrong := rev.Eval(e, vars, -1)
			return !is, wrong
		},
		"Compile": func(e api.Bool, vars int) (bool, api.Errno) {
			c, wrong := rev.Compile(e, vars)
			return isNothing(c), wrong
		},
	}
}

func TestErrorsOfGood(t *testing.T) {
	and := of(rev.And, v(0), v(1))
	withVar := func(e api.Bool) api.Bool {
		e.Var = 1
		return e
	}
	for i, y := range []struct {
		e    api.Bool
		vars int
		want api.Errno
	}{
		{and, 0, api.ErrRange}, {and, 9, api.ErrRange}, {and, -1, api.ErrRange}, {and, math.MaxInt, api.ErrRange}, {and, math.MinInt, api.ErrRange}, {long(25), 0, api.ErrRange}, {of(0), 9, api.ErrRange}, {looped(rev.And), 9, api.ErrRange},
		{long(25), 1, api.ErrMany}, {long(40), 8, api.ErrMany}, {of(9, slices.Repeat([]api.Bool{of(9)}, 24)...), 1, api.ErrMany}, {of(rev.And, slices.Repeat([]api.Bool{v(-1)}, 1<<16)...), 1, api.ErrMany}, {of(rev.Xor, long(12), long(12)), 1, api.ErrMany}, {of(0, long(24)), 1, api.ErrMany},
		{looped(rev.And), 8, api.ErrMany}, {looped(rev.Xor), 1, api.ErrMany}, {looped(0), 1, api.ErrMany}, {of(rev.Not, looped(rev.Not)), 1, api.ErrMany},
		{api.Bool{}, 1, api.ErrRange}, {of(8), 1, api.ErrRange}, {of(-1), 1, api.ErrRange}, {of(math.MaxInt), 1, api.ErrRange}, {of(math.MinInt), 1, api.ErrRange}, {withVar(of(8, v(0))), 1, api.ErrRange},
		{of(rev.Var, v(0)), 1, api.ErrClash}, {of(rev.Not), 1, api.ErrClash}, {of(rev.Not, v(0), v(0)), 1, api.ErrClash}, {of(rev.And), 1, api.ErrClash}, {of(rev.And, v(0)), 1, api.ErrClash}, {of(rev.And, v(0), v(0), v(0)), 1, api.ErrClash}, {of(rev.Xor, v(0)), 1, api.ErrClash}, {of(rev.Xor, v(0), v(0), v(0)), 1, api.ErrClash}, {of(rev.Or), 1, api.ErrClash}, {of(rev.Or, v(0)), 1, api.ErrClash}, {of(rev.No, v(0)), 1, api.ErrClash}, {of(rev.Yes, v(0)), 1, api.ErrClash},
		{withVar(of(rev.No)), 1, api.ErrClash}, {withVar(of(rev.Yes)), 2, api.ErrClash}, {withVar(of(rev.Not, v(0))), 2, api.ErrClash}, {withVar(and), 2, api.ErrClash}, {withVar(of(rev.Xor, v(0), v(0))), 2, api.ErrClash}, {withVar(of(rev.Or, v(0), v(0))), 2, api.ErrClash}, {api.Bool{Kind: rev.Yes, Var: -1}, 2, api.ErrClash}, {api.Bool{Kind: rev.Var, Var: 9, Args: []api.Bool{v(9)}}, 1, api.ErrClash},
		{v(1), 1, api.ErrNot}, {v(8), 8, api.ErrNot}, {v(-1), 8, api.ErrNot}, {v(math.MaxInt), 8, api.ErrNot}, {v(math.MinInt), 8, api.ErrNot}, {and, 1, api.ErrNot},
		// an expression is asked before its Args, and the first one of them with all that is in it before the second one
		{of(rev.Not, v(9), of(9)), 1, api.ErrClash}, {of(rev.And, v(9), of(9)), 1, api.ErrNot}, {of(rev.And, of(9), v(9)), 1, api.ErrRange}, {of(rev.And, of(rev.Not), v(9)), 1, api.ErrClash}, {of(rev.Xor, of(rev.Not, of(rev.Not, v(9))), of(9)), 1, api.ErrNot}, {of(rev.Or, of(rev.Xor, v(0), of(9)), of(rev.Not)), 1, api.ErrRange}, {of(rev.Or, of(rev.Xor, v(0), v(0)), of(rev.Not)), 1, api.ErrClash}, {of(rev.Or, of(rev.Xor, of(9)), v(0)), 1, api.ErrClash},
	} {
		for name, ask := range bools() {
			if zero, wrong := ask(y.e, y.vars); !zero || wrong != y.want {
				t.Error(i, name, zero, wrong)
			}
		}
	}
	for i, e := range []api.Bool{v(0), v(7), of(rev.No), of(rev.Yes), and, long(24), deep(11, v(7)), of(rev.Xor, long(12), long(11))} {
		if wrong := rev.Good(e, 8); wrong != api.OK {
			t.Error(i, wrong)
		}
	}
}

func TestFourthExample(t *testing.T) {
	c, e := rev.Compile(of(rev.And, v(0), v(1)), 2)
	if e != api.OK || !circ.Same(c, circuit(3, ccx(0, 1, 2))) {
		t.Error(c, e)
	}
	c, e = rev.Compile(of(rev.Or, v(0), v(1)), 2)
	if e != api.OK || !circ.Same(c, circuit(5, cx(0, 3), x(3), cx(1, 4), x(4), ccx(3, 4, 2), x(4), cx(1, 4), x(3), cx(0, 3), x(2))) {
		t.Error(c, e)
	}
}

func TestCompile(t *testing.T) {
	and := of(rev.And, v(0), v(1))
	for i, y := range []struct {
		e    api.Bool
		vars int
		want api.Circuit
	}{
		{of(rev.Yes), 1, circuit(2, x(1))}, {of(rev.Yes), 8, circuit(9, x(8))}, {of(rev.No), 1, circuit(2)}, {of(rev.No), 8, circuit(9)}, {v(0), 1, circuit(2, cx(0, 1))}, {v(7), 8, circuit(9, cx(7, 8))},
		{of(rev.Not, of(rev.No)), 1, circuit(2, x(1))}, {of(rev.Not, of(rev.Not, v(0))), 1, circuit(2, cx(0, 1), x(1), x(1))}, {of(rev.Xor, v(1), v(0)), 2, circuit(3, cx(1, 2), cx(0, 2))}, {of(rev.Xor, v(0), v(0)), 1, circuit(2, cx(0, 1), cx(0, 1))},
		{of(rev.And, v(1), v(0)), 2, circuit(3, ccx(1, 0, 2))}, {of(rev.And, v(1), v(1)), 2, circuit(3, cx(1, 2))},
		// both have wires of their own, even if nothing is added to them, or the same
		{of(rev.And, of(rev.No), of(rev.Yes)), 1, circuit(4, x(3), ccx(2, 3, 1), x(3))}, {of(rev.And, of(rev.No), v(0)), 1, circuit(3, ccx(2, 0, 1))}, {of(rev.And, and, and), 2, circuit(5, ccx(0, 1, 3), ccx(0, 1, 4), ccx(3, 4, 2), ccx(0, 1, 4), ccx(0, 1, 3))},
		// what the first Arg borrowed is free again for the second one
		{of(rev.And, of(rev.And, and, v(0)), of(rev.And, v(0), and)), 2, circuit(6, ccx(0, 1, 4), ccx(4, 0, 3), ccx(0, 1, 4), ccx(0, 1, 5), ccx(0, 5, 4), ccx(0, 1, 5), ccx(3, 4, 2), ccx(0, 1, 5), ccx(0, 5, 4), ccx(0, 1, 5), ccx(0, 1, 4), ccx(4, 0, 3), ccx(0, 1, 4))},
		// both Args of Xor borrow the same wire
		{of(rev.Xor, of(rev.And, and, v(0)), of(rev.And, v(1), of(rev.Yes))), 2, circuit(4, ccx(0, 1, 3), ccx(3, 0, 2), ccx(0, 1, 3), x(3), ccx(1, 3, 2), x(3))},
	} {
		if c, wrong := rev.Compile(y.e, y.vars); wrong != api.OK || !circ.Same(c, y.want) {
			t.Error(i, c, wrong)
		}
	}
}

// ask compares the values and the compiled circuit of a good expression with the model, and the circuit with the values.
func ask(t *testing.T, e api.Bool, vars int) {
	t.Helper()
	if modelSize(e) > rev.MaxBool || rev.Good(e, vars) != api.OK {
		t.Fatal(e, vars, rev.Good(e, vars))
	}
	for state := range 1 << vars {
		if is, wrong := rev.Eval(e, vars, state); wrong != api.OK || is != (modelValue(e, state) == 1) {
			t.Fatal(e, state, is, wrong)
		}
	}
	for _, state := range []int{-1, 1 << vars, math.MaxInt, math.MinInt} {
		if is, wrong := rev.Eval(e, vars, state); wrong != api.ErrRange || is {
			t.Fatal(e, state, is, wrong)
		}
	}
	want, bad := modelCompile(e, vars)
	c, wrong := rev.Compile(e, vars)
	if wrong != bad || !circ.Same(c, want) {
		t.Fatal(e, vars, c, wrong, want, bad)
	}
	if wrong == api.OK {
		asCompiled(t, e, vars, c)
	}
}

// asCompiled sees that a compiled circuit does what P8.6 says, for the wire being 0 and 1.
func asCompiled(t *testing.T, e api.Bool, vars int, c api.Circuit) {
	t.Helper()
	if wrong := rev.Check(c); wrong != api.OK {
		t.Fatal(e, c, wrong)
	}
	for state := range 2 << vars {
		n, wrong := rev.Apply(c, state)
		turned := modelValue(e, state) << vars
		if wrong != api.OK || n != state^turned || n != modelRun(c.Wires, c.Gates, state) {
			t.Fatal(e, c, state, n, wrong)
		}
	}
	var free []int
	for wire := vars + 1; wire < c.Wires; wire++ {
		free = append(free, wire)
	}
	if state, wrong := rev.Clean(c, free); wrong != api.ErrNone || state != 0 {
		t.Fatal(e, c, state, wrong)
	}
}

// TestAllExpressions goes through all expressions up to the size five.
func TestAllExpressions(t *testing.T) {
	for size := 1; size <= 5; size++ {
		for _, e := range expressions(2, size) {
			ask(t, e, 2)
		}
	}
}

func TestDrawnExpressions(t *testing.T) {
	var d draws
	ends := map[api.Errno]int{}
	for i := range 2500 {
		vars := 1 + i%8
		e := d.expression(vars, 1+d.below(rev.MaxBool))
		ask(t, e, vars)
		_, wrong := rev.Compile(e, vars)
		ends[wrong]++
	}
	if len(ends) != 3 || ends[api.ErrFull] == 0 || ends[api.ErrMany] == 0 {
		t.Error(ends)
	}
}

// TestLongAndWide has expressions whose circuits are at the limits, and one beyond.
func TestLongAndWide(t *testing.T) {
	and := of(rev.And, v(0), v(0))
	// 2, 5, 6, 13, 14, 29, 59, 119 gates
	full := of(rev.Not, of(rev.And, of(rev.And, of(rev.And, of(rev.Not, of(rev.And, of(rev.Not, of(rev.And, of(rev.Not, v(0)), v(0))), v(0))), v(0)), v(0)), v(0)))
	for i, y := range []struct {
		e            api.Bool
		vars         int
		wires, gates int
		want         api.Errno
	}{
		{full, 1, 7, 120, api.OK}, {full, 6, 12, 120, api.OK}, {of(rev.Not, full), 1, 0, 0, api.ErrMany}, {of(rev.Not, full), 6, 0, 0, api.ErrMany}, {full, 7, 0, 0, api.ErrFull}, {of(rev.Not, full), 7, 0, 0, api.ErrFull},
		{deep(3, and), 8, 12, 15, api.OK}, {deep(4, and), 8, 0, 0, api.ErrFull}, {deep(5, and), 1, 7, 63, api.OK}, {deep(6, and), 1, 0, 0, api.ErrMany}, {deep(10, and), 1, 0, 0, api.ErrMany}, {deep(10, and), 2, 0, 0, api.ErrFull}, {deep(10, and), 8, 0, 0, api.ErrFull},
		{long(24), 8, 9, 24, api.OK}, {of(rev.And, of(rev.Not, v(7)), of(rev.And, of(rev.No), of(rev.Yes))), 8, 0, 0, api.ErrFull}, {of(rev.And, of(rev.Not, v(6)), of(rev.And, of(rev.No), of(rev.Yes))), 7, 12, 11, api.OK},
	} {
		ask(t, y.e, y.vars)
		c, wrong := rev.Compile(y.e, y.vars)
		if wrong != y.want || c.Wires != y.wires || len(c.Gates) != y.gates {
			t.Error(i, c.Wires, len(c.Gates), wrong)
		}
	}
}

// P8.5

func TestFifthExample(t *testing.T) {
	c := circuit(2, cx(0, 1))
	if n, e := rev.Clean(c, []int{1}); e != api.OK || n != 1 {
		t.Error(n, e)
	}
	if n, e := rev.Borrowed(c, []int{0}); e != api.OK || n != 1 {
		t.Error(n, e)
	}
	if n, e := rev.Borrowed(circuit(2, cx(0, 1), cx(0, 1)), []int{0}); e != api.ErrNone || n != 0 {
		t.Error(n, e)
	}
}

func TestErrorsOfWires(t *testing.T) {
	c := circuit(3, x(0), x(1), x(2))
	for i, y := range []struct {
		wires []int
		e     api.Errno
	}{
		{[]int{3}, api.ErrNot}, {[]int{-1}, api.ErrNot}, {[]int{0, 12}, api.ErrNot}, {[]int{math.MaxInt}, api.ErrNot}, {[]int{math.MinInt}, api.ErrNot}, {[]int{64}, api.ErrNot},
		// all are asked whether they exist before what comes twice
		{[]int{0, 0, 3}, api.ErrNot}, {[]int{1, 1, -1}, api.ErrNot}, {[]int{5, 5}, api.ErrNot},
		{[]int{0, 0}, api.ErrTwice}, {[]int{2, 1, 0, 2}, api.ErrTwice}, {make([]int, 1<<16), api.ErrTwice},
		{[]int{0}, api.OK}, {[]int{2, 0, 1}, api.OK},
	} {
		n, e := rev.Clean(c, y.wires)
		m, f := rev.Borrowed(c, y.wires)
		if e != y.e || f != y.e || n != 0 || m != 0 {
			t.Error(i, n, e, m, f)
		}
	}
}

// TestWhatIsLeft compares with the model, for all lists of wires of drawn circuits, many of which leave nothing behind.
func TestWhatIsLeft(t *testing.T) {
	var d draws
	clean, borrowed := 0, 0
	for i := range 300 {
		wires := 1 + i%5
		c := d.circuit(wires, d.below(5))
		if i%3 == 0 {
			c.Gates = append(c.Gates, backwards(c.Gates)...)
		}
		if wires > 1 && i%3 == 1 {
			c.Gates = slices.Concat(c.Gates, d.circuit(wires-1, d.below(4)).Gates, backwards(c.Gates))
		}
		for set := range 1 << wires {
			l := d.some(len(modelBits(set)), wires)
			n, e := rev.Clean(c, l)
			want, f := modelClean(c, l)
			if n != want || e != f {
				t.Fatal(c, l, n, e, want, f)
			}
			m, g := rev.Borrowed(c, l)
			want, f = modelBorrowed(c, l)
			if m != want || g != f {
				t.Fatal(c, l, m, g, want, f)
			}
			// P8.6
			if g == api.ErrNone && e != api.ErrNone {
				t.Fatal(c, l)
			}
			if len(l) > 0 && e == api.ErrNone {
				clean++
			}
			if len(l) > 0 && g == api.ErrNone {
				borrowed++
			}
		}
	}
	if clean < 100 || borrowed < 50 || clean == borrowed {
		t.Error(clean, borrowed)
	}
	// at the limit: the last state of all, and none
	only := circuit(12, ccx(0, 1, 11))
	for k := 2; k < 12; k++ {
		if n, e := rev.Clean(only, []int{k}); k < 11 && (e != api.ErrNone || n != 0) || k == 11 && (e != api.OK || n != 3) {
			t.Error(k, n, e)
		}
	}
	if n, e := rev.Clean(circuit(12, x(11)), []int{11}); e != api.OK || n != 0 {
		t.Error(n, e)
	}
	if n, e := rev.Borrowed(circuit(12, ccx(10, 11, 9)), []int{11}); e != api.OK || n != 3072 {
		t.Error(n, e)
	}
	if n, e := rev.Borrowed(circuit(12, ccx(10, 11, 9)), nil); e != api.ErrNone || n != 0 {
		t.Error(n, e)
	}
}

func TestKeep(t *testing.T) {
	for i, y := range []struct {
		c    api.Circuit
		outs []int
		want api.Circuit
		e    api.Errno
	}{
		{circuit(2, x(0), cx(0, 1)), []int{1}, circuit(3, x(0), cx(0, 1), cx(1, 2), cx(0, 1), x(0)), api.OK}, {circuit(2, swap(0, 1)), []int{1, 0, 1}, circuit(5, swap(0, 1), cx(1, 2), cx(0, 3), cx(1, 4), swap(0, 1)), api.OK}, {circuit(3, ccx(2, 0, 1)), nil, circuit(3, ccx(2, 0, 1), ccx(2, 0, 1)), api.OK}, {withBits(5, circuit(1)), []int{0}, withBits(5, circuit(2, cx(0, 1))), api.OK},
		{circuit(1), make([]int, 11), circuit(12, cx(0, 1), cx(0, 2), cx(0, 3), cx(0, 4), cx(0, 5), cx(0, 6), cx(0, 7), cx(0, 8), cx(0, 9), cx(0, 10), cx(0, 11)), api.OK}, {circuit(12), nil, circuit(12), api.OK}, {xs(60), nil, xs(120), api.OK},
		{circuit(2), []int{2}, api.Circuit{}, api.ErrNot}, {circuit(2), []int{0, -1}, api.Circuit{}, api.ErrNot}, {circuit(2), []int{math.MaxInt}, api.Circuit{}, api.ErrNot}, {circuit(2), []int{math.MinInt}, api.Circuit{}, api.ErrNot},
		{circuit(1), make([]int, 12), api.Circuit{}, api.ErrFull}, {circuit(12), []int{0}, api.Circuit{}, api.ErrFull}, {circuit(2), make([]int, 1<<16), api.Circuit{}, api.ErrFull},
		{xs(60), []int{0}, api.Circuit{}, api.ErrMany}, {xs(61), nil, api.Circuit{}, api.ErrMany}, {xs(120), nil, api.Circuit{}, api.ErrMany}, {xs(59), []int{0, 0, 0}, api.Circuit{}, api.ErrMany},
		// what does not exist comes first, and too many wires come before too many gates
		{xs(120), slices.Concat(make([]int, 20), []int{1}), api.Circuit{}, api.ErrNot}, {xs(120), make([]int, 12), api.Circuit{}, api.ErrFull}, {xs(120), []int{0, 2}, api.Circuit{}, api.ErrNot},
	} {
		if c, e := rev.Keep(y.c, y.outs); e != y.e || !circ.Same(c, y.want) {
			t.Error(i, c, e)
		}
	}
	c, e := rev.Keep(xs(59), []int{0, 0})
	if e != api.OK || c.Wires != 3 || len(c.Gates) != 120 || rev.Check(c) != api.OK {
		t.Error(c, e)
	}
}

// P8.6

func TestTablesArePermutations(t *testing.T) {
	var d draws
	for i := range 60 {
		c := d.circuit(1+i%8, d.below(60))
		l, _ := rev.Table(c)
		sorted := slices.Sorted(slices.Values(l))
		if !slices.Equal(sorted, modelTable(circuit(c.Wires))) {
			t.Fatal(c, l)
		}
		back, _ := rev.Table(circuit(c.Wires, backwards(c.Gates)...))
		for state, n := range l {
			if back[n] != state {
				t.Fatal(c, state)
			}
		}
		if c.Wires > rev.MaxWide {
			continue
		}
		// and a permutation is the table of its circuit
		if n, e := rev.Wide(l); e != api.OK || n != c.Wires {
			t.Fatal(c, n, e)
		}
		again, e := rev.Circuit(l)
		if is, f := rev.Same(c, again); e != api.OK || f != api.OK || !is {
			t.Fatal(c, again, e, f)
		}
	}
}

func TestKept(t *testing.T) {
	var d draws
	for i := range 80 {
		wires := 1 + i%6
		c := d.circuit(wires, d.below(50))
		var outs []int
		for range d.below(6) {
			outs = append(outs, d.below(wires))
		}
		kept, e := rev.Keep(c, outs)
		if e != api.OK || kept.Wires != wires+len(outs) || len(kept.Gates) != 2*len(c.Gates)+len(outs) {
			t.Fatal(c, outs, kept, e)
		}
		for state := range 1 << wires {
			out, want := modelRun(wires, c.Gates, state), state
			for k, wire := range outs {
				want |= out >> wire & 1 << (wires + k)
			}
			if n, e := rev.Apply(kept, state); e != api.OK || n != want {
				t.Fatal(c, outs, state, n, e)
			}
		}
	}
}

// R4

func TestMemory(t *testing.T) {
	c := circuit(3, ccx(0, 1, 2), swap(1, 2), x(0))
	p, outs := []int{3, 0, 6, 1, 2, 7, 5, 4}, []int{2, 0}
	e := of(rev.Or, of(rev.And, v(0), v(1)), of(rev.Not, v(2)))
	easy := modelTable(c)
	easyGates, _ := rev.Shortest(easy, 4)
	for range 2 {
		kept, _ := rev.Keep(c, outs)
		made, _ := rev.Circuit(p)
		shortest, _ := rev.Shortest(modelTable(circuit(3, x(0), cx(0, 1), ccx(1, 0, 2))), 4)
		compiled, _ := rev.Compile(e, 3)
		for i, d := range []api.Circuit{kept, made, shortest, compiled} {
			if len(d.Gates) < 3 {
				t.Error(i, d)
			}
			for k, g := range d.Gates {
				if len(g.Wires) != modelArity(g.Kind) {
					t.Error(i, g)
				}
				for _, h := range d.Gates[:k] {
					if &g.Wires[0] == &h.Wires[0] {
						t.Error(i, k)
					}
				}
				clear(append(g.Wires, 9))
				clear(g.Wires)
			}
		}
		l, _ := rev.Table(c)
		clear(l)
		cycles, _ := rev.Cycles(p)
		for _, cycle := range cycles {
			clear(append(cycle, 9))
			clear(cycle)
		}
		rev.Clean(c, outs)
		rev.Borrowed(c, outs)
	}
	same, _ := rev.Shortest(easy, 4)
	again, _ := rev.Compile(e, 3)
	want, _ := modelCompile(e, 3)
	if !circ.Same(c, circuit(3, ccx(0, 1, 2), swap(1, 2), x(0))) || !slices.Equal(p, []int{3, 0, 6, 1, 2, 7, 5, 4}) || !slices.Equal(outs, []int{2, 0}) || !circ.Same(same, easyGates) || !circ.Same(again, want) {
		t.Error(c, p, outs, same, again)
	}
}

// P0.1

func TestAnyArguments(t *testing.T) {
	var d draws
	odd := []int{0, 1, 2, 3, 4, 7, 8, -1, 12, 13, 63, 64, 4095, 4096, math.MaxInt, math.MinInt, math.MaxInt - 1, 1 << 40}
	pick := func() int { return odd[d.below(len(odd))] }
	list := func() []int {
		var l []int
		for range d.below(9) {
			l = append(l, pick())
		}
		return l
	}
	var tree func(depth int) api.Bool
	tree = func(depth int) api.Bool {
		e := api.Bool{Kind: d.below(10) - 1}
		if d.below(3) == 0 {
			e.Var = pick()
		}
		for range d.below(min(depth, 4)) {
			e.Args = append(e.Args, tree(depth-1))
		}
		if len(e.Args) > 0 && d.below(4) == 0 {
			e.Args[d.below(len(e.Args))] = e
		}
		return e
	}
	for range 3000 {
		c := api.Circuit{Wires: pick(), Bits: pick()}
		for range d.below(3) {
			c.Gates = append(c.Gates, api.Gate{Kind: d.below(17) - 1, Wires: list(), Bit: pick(), If: pick()})
		}
		for _, ask := range asks() {
			ask(c)
		}
		for _, ask := range permutes() {
			ask(list())
		}
		for _, ask := range bools() {
			ask(tree(6), pick())
		}
		good := d.circuit(1+d.below(4), d.below(3))
		rev.Apply(good, pick())
		rev.Clean(good, list())
		rev.Borrowed(good, list())
		rev.Keep(good, list())
		rev.Same(good, c)
		rev.Shortest(list(), pick())
		rev.Shortest(d.permutation(4), pick())
		rev.Count(pick(), min(pick(), 2))
		rev.Eval(d.expression(3, 9), pick(), pick())
		rev.Compile(d.expression(3, 24), pick())
	}
}
