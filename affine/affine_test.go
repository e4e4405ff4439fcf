package affine_test

import (
	"math"
	"slices"
	"testing"

	"spoondrift/affine"
	"spoondrift/api"
	"spoondrift/bits"
	"spoondrift/circ"
)

func x(i int) api.Gate { return api.Gate{Kind: api.X, Wires: []int{i}} }

func cx(i, k int) api.Gate { return api.Gate{Kind: api.CX, Wires: []int{i, k}} }

func swap(i, k int) api.Gate { return api.Gate{Kind: api.Swap, Wires: []int{i, k}} }

// circuit makes a circuit; rows makes a map.
func circuit(wires int, l ...api.Gate) api.Circuit { return api.Circuit{Wires: wires, Gates: l} }

func rows(shift int, l ...int) api.Affine { return api.Affine{Wires: len(l), Rows: l, Shift: shift} }

// units are the rows of the identity.
func units(wires int) api.Affine {
	m := api.Affine{Wires: wires}
	for k := range wires {
		m.Rows = append(m.Rows, 1<<k)
	}
	return m
}

func shifted(m api.Affine, shift int) api.Affine {
	m.Shift = shift
	return m
}

func same(m, n api.Affine) bool {
	return m.Wires == n.Wires && slices.Equal(m.Rows, n.Rows) && m.Shift == n.Shift
}

// asks are the functions that have a map, with other arguments that would be an error, too, if they have some; they tell whether the results are zero.
func asks() map[string]func(api.Affine) (bool, api.Errno) {
	type call = func(api.Affine) (bool, api.Errno)
	isMap := func(m api.Affine, e api.Errno) (bool, api.Errno) { return same(m, api.Affine{}), e }
	isNumber := func(n int, e api.Errno) (bool, api.Errno) { return n == 0, e }
	isCircuit := func(c api.Circuit, e api.Errno) (bool, api.Errno) { return circ.Same(c, api.Circuit{}), e }
	return map[string]call{
		"Check":     func(m api.Affine) (bool, api.Errno) { return true, affine.Check(m) },
		"Apply":     func(m api.Affine) (bool, api.Errno) { return isNumber(affine.Apply(m, -1)) },
		"Compose a": func(m api.Affine) (bool, api.Errno) { return isMap(affine.Compose(m, api.Affine{Wires: 99})) },
		"Compose b": func(m api.Affine) (bool, api.Errno) { return isMap(affine.Compose(units(12), m)) },
		"Inverse":   func(m api.Affine) (bool, api.Errno) { return isMap(affine.Inverse(m)) },
		"Order":     func(m api.Affine) (bool, api.Errno) { return isNumber(affine.Order(m)) },
		"Fixed": func(m api.Affine) (bool, api.Errno) {
			l, s, e := affine.Fixed(m)
			return len(l) == 0 && s == 0, e
		},
		"Circuit":  func(m api.Affine) (bool, api.Errno) { return isCircuit(affine.Circuit(m)) },
		"Number":   func(m api.Affine) (bool, api.Errno) { return isNumber(affine.Number(m)) },
		"Shortest": func(m api.Affine) (bool, api.Errno) { return isCircuit(affine.Shortest(m)) },
	}
}

// P7.1

func TestErrorsOfCheck(t *testing.T) {
	for i, c := range []struct {
		m api.Affine
		e api.Errno
	}{
		{api.Affine{}, api.ErrRange}, {api.Affine{Wires: -1}, api.ErrRange}, {units(13), api.ErrRange}, {api.Affine{Wires: math.MaxInt, Rows: []int{1}}, api.ErrRange}, {api.Affine{Wires: math.MinInt}, api.ErrRange}, {api.Affine{Wires: 64}, api.ErrRange},
		{api.Affine{Wires: 1}, api.ErrMany}, {api.Affine{Wires: 1, Rows: []int{1, 1}}, api.ErrMany}, {api.Affine{Wires: 3, Rows: []int{1, 2}}, api.ErrMany}, {api.Affine{Wires: 12, Rows: make([]int, 1<<16)}, api.ErrMany}, {api.Affine{Wires: 2, Rows: []int{-1}, Shift: -1}, api.ErrMany},
		{rows(0, 2), api.ErrForm}, {rows(0, -1), api.ErrForm}, {rows(0, 1, 4), api.ErrForm}, {rows(0, 4, 2), api.ErrForm}, {rows(0, math.MinInt, 2), api.ErrForm}, {rows(0, 1, math.MaxInt), api.ErrForm},
		{rows(2, 1), api.ErrForm}, {rows(-1, 1), api.ErrForm}, {rows(4, 1, 2), api.ErrForm}, {rows(math.MaxInt, 1, 2), api.ErrForm}, {rows(math.MinInt, 1, 2), api.ErrForm}, {shifted(units(12), 4096), api.ErrForm}, {shifted(units(12), -1), api.ErrForm},
		// the form is asked for before what can be inverted
		{rows(4, 1, 1), api.ErrForm}, {rows(-1, 0, 0), api.ErrForm}, {rows(0, 1, 1, 8), api.ErrForm},
		{rows(0, 0), api.ErrNone}, {rows(1, 0), api.ErrNone}, {rows(0, 1, 1), api.ErrNone}, {rows(3, 0, 3), api.ErrNone}, {rows(0, 3, 5, 6), api.ErrNone}, {rows(0, make([]int, 12)...), api.ErrNone},
	} {
		for name, ask := range asks() {
			if zero, e := ask(c.m); !zero || e != c.e {
				t.Error(i, name, zero, e)
			}
		}
	}
	for _, m := range []api.Affine{rows(0, 1), rows(1, 1), rows(3, 3, 2), rows(0, 3, 5, 7), units(12), shifted(units(12), 4095)} {
		if e := affine.Check(m); e != api.OK {
			t.Error(m, e)
		}
	}
}

// TestRightMaps asks all rows of two and three wires, and drawn ones, whether they can be inverted.
func TestRightMaps(t *testing.T) {
	var l []api.Affine
	for a := range 8 {
		for b := range 8 {
			for c := range 8 {
				l = append(l, rows(a^b^c, a, b, c))
			}
			l = append(l, rows(a&b&3, a&3, b&3))
		}
	}
	var d draws
	for i := range 200 {
		m := d.affine(1 + i%8)
		m.Rows[d.below(len(m.Rows))] = d.below(1 << m.Wires)
		l = append(l, m)
	}
	for _, m := range l {
		want := api.OK
		if !modelRight(m) {
			want = api.ErrNone
		}
		if e := affine.Check(m); e != want {
			t.Error(m, e, want)
		}
	}
}

func TestTwoMaps(t *testing.T) {
	// the first map is asked before the second one, and both before whether they go together
	large, short, none := api.Affine{Wires: 13}, api.Affine{Wires: 2}, rows(0, 1, 1)
	for i, c := range []struct {
		a, b api.Affine
		e    api.Errno
	}{
		{none, large, api.ErrNone}, {large, none, api.ErrRange}, {short, none, api.ErrMany}, {units(3), none, api.ErrNone}, {units(3), short, api.ErrMany},
		{units(1), units(2), api.ErrClash}, {units(12), units(11), api.ErrClash}, {units(2), units(2), api.OK},
	} {
		m, e := affine.Compose(c.a, c.b)
		if e != c.e || e != api.OK && !same(m, api.Affine{}) {
			t.Error(i, m, e)
		}
	}
}

func TestIdentity(t *testing.T) {
	for wires := 1; wires <= api.MaxWires; wires++ {
		if m, e := affine.Identity(wires); e != api.OK || !same(m, units(wires)) || !modelTable(m).still() {
			t.Error(wires, m, e)
		}
	}
	for _, wires := range []int{0, 13, 16, -1, math.MaxInt, math.MinInt} {
		if m, e := affine.Identity(wires); e != api.ErrRange || !same(m, api.Affine{}) {
			t.Error(wires, m, e)
		}
	}
}

func TestSame(t *testing.T) {
	l := []api.Affine{{}, {Wires: 1}, {Wires: -5, Rows: []int{-1}}, rows(0, 1, 2), rows(1, 1, 2), rows(0, 2, 1), rows(0, 1), {Wires: 3, Rows: []int{1, 2}}, {Wires: 2, Rows: []int{1, 2, 4}}, {Wires: 2, Rows: []int{1}}, rows(0, 1, 1), {Shift: 7}}
	for i, m := range l {
		for k, n := range l {
			if affine.Same(m, n) != (i == k) {
				t.Error(i, k)
			}
		}
	}
	if !affine.Same(api.Affine{Rows: []int{}}, api.Affine{}) {
		t.Error("empty rows and no rows are the same")
	}
}

// P7.2

func TestFirstExample(t *testing.T) {
	c := circuit(2, cx(0, 1), x(0))
	m, e := affine.Of(c)
	if e != api.OK || !same(m, rows(1, 1, 3)) {
		t.Error(m, e)
	}
	for state, want := range []int{1, 2, 3, 0} {
		if y, e := affine.Apply(m, state); e != api.OK || y != want {
			t.Error(state, y, e)
		}
	}
	l, e := affine.Parities(c)
	if e != api.OK || !slices.EqualFunc(l, [][]int{{1, 2}, {1, 3}, {5, 3}}, slices.Equal) {
		t.Error(l, e)
	}
	if n, e := affine.Order(m); e != api.OK || n != 4 {
		t.Error(n, e)
	}
	if l, s, e := affine.Fixed(m); e != api.ErrNone || len(l) != 0 || s != 0 {
		t.Error(l, s, e)
	}
	if d, e := affine.Circuit(m); e != api.OK || !circ.Same(d, c) {
		t.Error(d, e)
	}
}

func TestThirdExample(t *testing.T) {
	if m, e := affine.Inverse(rows(1, 1, 3)); e != api.OK || !same(m, rows(3, 1, 3)) {
		t.Error(m, e)
	}
	a, _ := affine.Of(circuit(2, cx(0, 1)))
	b, _ := affine.Of(circuit(2, cx(1, 0)))
	m, e := affine.Compose(a, b)
	if e != api.OK || !same(m, rows(0, 2, 3)) {
		t.Error(m, e)
	}
	if n, e := affine.Order(m); e != api.OK || n != 3 {
		t.Error(n, e)
	}
	if l, s, e := affine.Fixed(m); e != api.OK || len(l) != 0 || s != 0 {
		t.Error(l, s, e)
	}
}

func TestOf(t *testing.T) {
	var d draws
	for i := range 120 {
		wires := 1 + i%8
		c := d.circuit(wires, d.below(40))
		c.Bits = i % 9
		m, e := affine.Of(c)
		if e != api.OK || !same(m, modelCircuit(c).affine()) || !slices.Equal(modelTable(m), modelCircuit(c)) {
			t.Fatal(c, m, e)
		}
	}
	// at the limits: all gates on all wires
	c := d.circuit(api.MaxWires, api.MaxGates)
	m, e := affine.Of(c)
	if e != api.OK || !slices.Equal(modelTable(m), modelCircuit(c)) {
		t.Error(m, e)
	}
	c.Gates = append(c.Gates, x(0))
	if m, e := affine.Of(c); e != api.ErrMany || !same(m, api.Affine{}) {
		t.Error(m, e)
	}
}

func TestErrorsOfCircuits(t *testing.T) {
	steered, look := x(0), api.Gate{Kind: api.Measure, Wires: []int{0}}
	steered.If = 1
	steeredSwap := swap(0, 1)
	steeredSwap.If = 1
	withBits := func(bits int, c api.Circuit) api.Circuit {
		c.Bits = bits
		return c
	}
	on := func(kind int, wires ...int) api.Gate { return api.Gate{Kind: kind, Wires: wires} }
	list := []struct {
		c api.Circuit
		e api.Errno
	}{
		{circuit(1), api.OK}, {withBits(8, circuit(12)), api.OK}, {withBits(1, circuit(1, x(0))), api.OK},
		{circuit(0), api.ErrRange}, {circuit(13), api.ErrRange}, {withBits(9, circuit(1)), api.ErrRange}, {circuit(1, slices.Repeat([]api.Gate{x(0)}, 121)...), api.ErrMany},
		{circuit(1, on(0, 0)), api.ErrRange}, {circuit(1, on(15, 0)), api.ErrRange}, {circuit(1, on(math.MinInt)), api.ErrRange}, {circuit(2, on(api.CX, 0)), api.ErrMany}, {circuit(2, on(api.X)), api.ErrMany}, {circuit(2, cx(0, 2)), api.ErrNot}, {circuit(2, swap(1, 1)), api.ErrTwice},
		{circuit(1, steered), api.ErrNot}, {circuit(1, look), api.ErrNot},
		{withBits(1, circuit(1, steered)), api.ErrForm}, {withBits(1, circuit(2, x(0), steeredSwap)), api.ErrForm}, {withBits(1, circuit(1, look)), api.ErrForm}, {circuit(1, on(api.Reset, 0)), api.ErrForm},
		{circuit(2, cx(0, 1), on(api.CZ, 0, 1)), api.ErrForm}, {circuit(3, on(api.CCX, 0, 1, 2)), api.ErrForm},
		// an error of circ.Check comes first, even behind
		{circuit(2, on(api.H, 0), swap(0, 0)), api.ErrTwice}, {circuit(2, on(api.T, 0), cx(0, -1)), api.ErrNot}, {withBits(9, circuit(2, on(api.H, 0))), api.ErrRange},
	}
	for _, kind := range []int{api.Y, api.Z, api.H, api.S, api.Sd, api.T, api.Td} {
		list = append(list, struct {
			c api.Circuit
			e api.Errno
		}{circuit(2, x(1), on(kind, 0), x(0)), api.ErrForm})
	}
	for i, c := range list {
		m, e := affine.Of(c.c)
		l, f := affine.Parities(c.c)
		if e != c.e || f != c.e || e != api.OK && (!same(m, api.Affine{}) || len(l) != 0) {
			t.Error(i, m, l, e, f)
		}
	}
}

func TestApply(t *testing.T) {
	var d draws
	for i := range 60 {
		m := d.affine(1 + i%9)
		for state, want := range modelTable(m) {
			if y, e := affine.Apply(m, state); e != api.OK || y != want {
				t.Fatal(m, state, y, e)
			}
		}
		for _, state := range []int{-1, 1 << m.Wires, math.MaxInt, math.MinInt} {
			if y, e := affine.Apply(m, state); e != api.ErrForm || y != 0 {
				t.Error(m, state, y, e)
			}
		}
	}
}

func TestComposeAndInverse(t *testing.T) {
	var d draws
	for i := range 120 {
		wires := 1 + i%9
		a, b := d.affine(wires), d.affine(wires)
		u, v := modelTable(a), modelTable(b)
		m, e := affine.Compose(a, b)
		if e != api.OK || !same(m, u.then(v).affine()) {
			t.Fatal(a, b, m, e)
		}
		back, e := affine.Inverse(a)
		if e != api.OK || !u.then(modelTable(back)).still() || !modelTable(back).then(u).still() {
			t.Fatal(a, back, e)
		}
	}
	// at the limit
	c := d.circuit(12, 120)
	a, e := affine.Of(c)
	back, f := affine.Inverse(a)
	if e != api.OK || f != api.OK || !modelTable(a).then(modelTable(back)).still() {
		t.Error(a, back, e, f)
	}
}

func TestParities(t *testing.T) {
	var d draws
	for i := range 60 {
		c := d.circuit(1+i%9, d.below(30))
		if i == 0 {
			c = d.circuit(12, 120)
		}
		l, e := affine.Parities(c)
		if e != api.OK || len(l) != len(c.Gates)+1 {
			t.Fatal(c, l, e)
		}
		for n, had := range l {
			if len(l) > 100 && n%20 != 0 {
				continue
			}
			m := modelCircuit(circuit(c.Wires, c.Gates[:n]...)).affine()
			for k := range m.Rows {
				m.Rows[k] += m.Shift >> k & 1 << c.Wires
			}
			if !slices.Equal(had, m.Rows) {
				t.Fatal(c, n, had, m)
			}
		}
	}
	if l, e := affine.Parities(circuit(3)); e != api.OK || !slices.EqualFunc(l, [][]int{{1, 2, 4}}, slices.Equal) {
		t.Error(l, e)
	}
}

// P7.3

func TestOrderAndFixed(t *testing.T) {
	var d draws
	list := []api.Affine{units(1), rows(1, 1), units(12), shifted(units(12), 4095)}
	for _, wires := range []int{1, 2, 3} {
		list = append(list, modelMaps(wires)...)
	}
	for i := range 60 {
		list = append(list, d.affine(4+i%5))
		c := d.circuit(4+i%5, 1+i%4) // these have more that is fixed
		list = append(list, modelCircuit(c).affine())
	}
	for _, m := range list {
		table := modelTable(m)
		if n, e := affine.Order(m); e != api.OK || n != table.order() {
			t.Fatal(m, n, e)
		}
		l, s, e := affine.Fixed(m)
		fixed := table.fixed()
		if len(fixed) == 0 {
			if e != api.ErrNone || len(l) != 0 || s != 0 {
				t.Fatal(m, l, s, e)
			}
			continue
		}
		var sums []int
		for _, other := range fixed {
			sums = append(sums, other^fixed[0])
		}
		if e != api.OK || s != fixed[0] || !slices.Equal(l, modelReduced(sums)) {
			t.Fatal(m, l, s, e)
		}
	}
}

func TestLongestOrder(t *testing.T) {
	// the wires are the coefficients of a polynomial that is multiplied with x, modulo 1 + x + x^4 + x^6 + x^12: all but 0 are powers of x
	m := api.Affine{Wires: 12, Rows: []int{1 << 11}}
	for k := 1; k < 12; k++ {
		row := 1 << (k - 1)
		if k == 1 || k == 4 || k == 6 {
			row |= 1 << 11
		}
		m.Rows = append(m.Rows, row)
	}
	if n, e := affine.Order(m); e != api.OK || n != 4095 {
		t.Error(n, e)
	}
	if l, s, e := affine.Fixed(m); e != api.OK || len(l) != 0 || s != 0 {
		t.Error(l, s, e)
	}
	m.Shift = 1
	if n, e := affine.Order(m); e != api.OK || n != modelTable(m).order() {
		t.Error(n, e)
	}
	l, s, e := affine.Fixed(units(12))
	if e != api.OK || s != 0 || !slices.Equal(l, []int{2048, 1024, 512, 256, 128, 64, 32, 16, 8, 4, 2, 1}) {
		t.Error(l, s, e)
	}
}

// P7.4

func TestSecondExample(t *testing.T) {
	m, e := affine.Of(circuit(2, swap(0, 1)))
	if e != api.OK || !same(m, rows(0, 2, 1)) {
		t.Error(m, e)
	}
	if c, e := affine.Circuit(m); e != api.OK || !circ.Same(c, circuit(2, cx(1, 0), cx(0, 1), cx(1, 0))) {
		t.Error(c, e)
	}
	if c, e := affine.Shortest(m); e != api.OK || !circ.Same(c, circuit(2, swap(0, 1))) {
		t.Error(c, e)
	}
}

func TestCircuit(t *testing.T) {
	var d draws
	list := []api.Affine{units(1), rows(1, 1), units(12), shifted(units(12), 4095)}
	for _, wires := range []int{2, 3} {
		list = append(list, modelMaps(wires)...)
	}
	for i := range 80 {
		list = append(list, d.affine(4+i%6))
	}
	for _, m := range list {
		c, e := affine.Circuit(m)
		if e != api.OK || !circ.Same(c, modelCanonical(m)) || len(c.Gates) > m.Wires*m.Wires+m.Wires {
			t.Fatal(m, c, e)
		}
		if n, e := affine.Of(c); e != api.OK || !same(n, m) {
			t.Fatal(m, c, n, e)
		}
	}
	for _, m := range []api.Affine{units(1), units(12)} {
		if c, e := affine.Circuit(m); e != api.OK || !circ.Same(c, circuit(m.Wires)) {
			t.Error(m, c, e)
		}
	}
}

// crowded returns a map of twelve wires whose canonical circuit has so many CX: as many rows as there may be are added to in each column.
func crowded(t *testing.T, gates int) api.Affine {
	t.Helper()
	c := circuit(12)
	for k := range 12 {
		for i := range 12 {
			if i != k && len(c.Gates) < gates {
				c.Gates = append(c.Gates, cx(k, i))
			}
		}
	}
	slices.Reverse(c.Gates)
	m, e := affine.Of(c)
	if e != api.OK || len(modelCanonical(m).Gates) != gates {
		t.Fatal(m, e)
	}
	return m
}

func TestLongCircuits(t *testing.T) {
	for _, shift := range []int{0, 1, 1 << 11, 7, 4095} {
		for _, gates := range []int{107, 108, 109, 116, 117, 118, 119, 120} {
			m := shifted(crowded(t, gates), shift)
			want := modelCanonical(m)
			c, e := affine.Circuit(m)
			switch {
			case len(want.Gates) > api.MaxGates:
				if e != api.ErrLong || !circ.Same(c, api.Circuit{}) {
					t.Error(gates, shift, e)
				}
			case e != api.OK || !circ.Same(c, want):
				t.Error(gates, shift, e)
			}
		}
	}
	if _, e := affine.Circuit(crowded(t, 120)); e != api.OK {
		t.Error(e)
	}
	if _, e := affine.Circuit(shifted(crowded(t, 120), 1)); e != api.ErrLong {
		t.Error(e)
	}
}

// P7.5

func TestNumbers(t *testing.T) {
	for wires, many := range map[int]int{1: 2, 2: 24, 3: 1344} {
		maps := modelMaps(wires)
		if n, e := affine.Count(wires); e != api.OK || n != many || len(maps) != many {
			t.Error(wires, n, len(maps), e)
		}
		for k, want := range maps {
			m, e := affine.Nth(wires, k)
			n, f := affine.Number(want)
			if e != api.OK || !same(m, want) || f != api.OK || n != k {
				t.Fatal(wires, k, m, n, e, f)
			}
		}
		for _, k := range []int{-1, many, many + 1, math.MaxInt, math.MinInt} {
			if m, e := affine.Nth(wires, k); e != api.ErrNot || !same(m, api.Affine{}) {
				t.Error(wires, k, m, e)
			}
		}
	}
	if m, e := affine.Nth(2, 4); e != api.OK || !same(m, rows(0, 1, 3)) {
		t.Error(m, e)
	}
}

func TestOnlySmall(t *testing.T) {
	for _, wires := range []int{0, 4, -1, 12, 13, math.MaxInt, math.MinInt} {
		n, e := affine.Count(wires)
		m, f := affine.Nth(wires, -1)
		l, g := affine.Proof(wires)
		is, h := affine.Holds(wires, []int{-1})
		if e != api.ErrRange || f != api.ErrRange || g != api.ErrRange || h != api.ErrRange || n != 0 || !same(m, api.Affine{}) || len(l) != 0 || is {
			t.Error(wires, n, m, l, is, e, f, g, h)
		}
	}
	for wires := 4; wires <= 12; wires++ {
		n, e := affine.Number(units(wires))
		c, f := affine.Shortest(units(wires))
		if e != api.ErrLarge || f != api.ErrLarge || n != 0 || !circ.Same(c, api.Circuit{}) {
			t.Error(wires, n, c, e, f)
		}
	}
}

// P7.6

func TestShortest(t *testing.T) {
	if c, e := affine.Shortest(rows(2, 1, 3)); e != api.OK || !circ.Same(c, circuit(2, x(1), cx(0, 1))) {
		t.Error(c, e)
	}
	for wires := 1; wires <= 3; wires++ {
		a := modelAtlas(wires)
		proof, e := affine.Proof(wires)
		if e != api.OK || !slices.Equal(proof, a.need) {
			t.Fatal(wires, proof, e)
		}
		for k, m := range a.maps {
			if wires == 3 && k%5 != 0 && k > 40 {
				continue
			}
			c, e := affine.Shortest(m)
			if e != api.OK || !circ.Same(c, a.shortest(k)) || len(c.Gates) != proof[k] {
				t.Fatal(m, c, e)
			}
			if n, e := affine.Of(c); e != api.OK || !same(n, m) {
				t.Fatal(m, c, n, e)
			}
		}
	}
}

// TestAllWords goes through all circuits of small gates in lexicographic order: the first one of a map is its shortest.
func TestAllWords(t *testing.T) {
	for wires, most := range map[int]int{1: 3, 2: 5, 3: 3} {
		left := map[int]bool{}
		for k := range modelMaps(wires) {
			left[k] = true
		}
		for gates := range most + 1 {
			words(wires, gates, modelGates(wires), func(c api.Circuit) bool {
				m := modelCircuit(c).affine()
				k, e := affine.Number(m)
				if !left[k] {
					return true
				}
				delete(left, k)
				d, f := affine.Shortest(m)
				if e != api.OK || f != api.OK || !circ.Same(c, d) {
					t.Error(wires, c, d, e, f)
				}
				return true
			})
		}
		if wires < 3 && len(left) > 0 {
			t.Error(wires, left)
		}
	}
}

func TestHolds(t *testing.T) {
	if l, e := affine.Proof(1); e != api.OK || !slices.Equal(l, []int{0, 1}) {
		t.Error(l, e)
	}
	for i, c := range []struct {
		l  []int
		is bool
	}{
		{[]int{0, 0}, true}, {[]int{0, 1}, true}, {[]int{0, 2}, false}, {[]int{1, 0}, false}, {[]int{1, 1}, false}, {[]int{0, -1}, false}, {[]int{-1, 0}, false},
		{nil, false}, {[]int{0}, false}, {[]int{0, 1, 2}, false}, {[]int{0, 0, 0}, false}, {[]int{0, math.MaxInt}, false}, {[]int{0, math.MinInt}, false}, {[]int{math.MinInt, math.MaxInt}, false},
	} {
		if is, e := affine.Holds(1, c.l); e != api.OK || is != c.is {
			t.Error(i, is, e)
		}
	}
	var d draws
	for wires := 1; wires <= 3; wires++ {
		a := modelAtlas(wires)
		ask := func(l []int) {
			t.Helper()
			if is, e := affine.Holds(wires, l); e != api.OK || is != a.holds(l) {
				t.Error(wires, l, is, e)
			}
		}
		ask(make([]int, len(a.maps)))
		ask(make([]int, len(a.maps)+1))
		ask(a.need[:len(a.need)-1])
		for range 60 {
			l := slices.Clone(a.need)
			top := d.below(6)
			for k := range l {
				l[k] = min(l[k], top)
			}
			ask(l)
			l[d.below(len(l))] += d.below(3) - 1
			ask(l)
			l[d.below(len(l))] = d.below(4) - 1
			ask(l)
		}
	}
}

// P7.7

func TestCompositions(t *testing.T) {
	var d draws
	for i := range 60 {
		wires := 1 + i%12
		c, next := d.circuit(wires, d.below(60)), d.circuit(wires, d.below(60))
		both, _ := circ.Compose(c, next)
		a, e := affine.Of(c)
		b, f := affine.Of(next)
		m, g := affine.Of(both)
		n, h := affine.Compose(a, b)
		if e != api.OK || f != api.OK || g != api.OK || h != api.OK || !same(m, n) {
			t.Fatal(c, next, m, n)
		}
		other, _ := affine.Of(d.circuit(wires, 9))
		left, _ := affine.Compose(n, other)
		right, _ := affine.Compose(b, other)
		right, _ = affine.Compose(a, right)
		if !same(left, right) {
			t.Fatal(a, b, other)
		}
		one, _ := affine.Identity(wires)
		before, _ := affine.Compose(one, a)
		behind, _ := affine.Compose(a, one)
		back, _ := affine.Inverse(a)
		there, _ := affine.Compose(a, back)
		here, _ := affine.Compose(back, a)
		if !same(before, a) || !same(behind, a) || !same(there, one) || !same(here, one) {
			t.Fatal(a, back)
		}
		met := map[int]bool{}
		for s := range 1 << wires {
			y, _ := affine.Apply(a, s)
			met[y] = true
		}
		if len(met) != 1<<wires {
			t.Fatal(a, len(met))
		}
	}
}

func TestFixedSums(t *testing.T) {
	var d draws
	for i := range 60 {
		m := modelCircuit(d.circuit(2+i%8, 1+i%5)).affine()
		l, s, e := affine.Fixed(m)
		if e != api.OK {
			continue
		}
		for which := range 1 << len(l) {
			y := s
			for k, row := range l {
				if bit(which, k) {
					y ^= row
				}
			}
			if z, e := affine.Apply(m, y); e != api.OK || z != y {
				t.Fatal(m, y, z, e)
			}
		}
		if r, _ := bits.Reduce(l, m.Wires); !slices.Equal(r, l) {
			t.Fatal(m, l)
		}
	}
}

// TestProofIsGreatest makes lists that hold and sees that Proof has no lesser number anywhere, and that a greater one anywhere does not hold.
func TestProofIsGreatest(t *testing.T) {
	var d draws
	for wires := 1; wires <= 3; wires++ {
		a := modelAtlas(wires)
		proof, _ := affine.Proof(wires)
		if is, e := affine.Holds(wires, proof); e != api.OK || !is {
			t.Fatal(wires, e)
		}
		for range 20 {
			// how many gates lead to a map from the identity, or from one of some others
			b := a
			b.need = slices.Repeat([]int{len(a.maps)}, len(a.maps))
			b.need[a.identity()] = 0
			for range d.below(4) {
				b.need[d.below(len(a.maps))] = d.below(3)
			}
			b.need[a.identity()] = 0
			for range a.maps {
				for k, others := range b.behind {
					for _, other := range others {
						b.need[k] = min(b.need[k], b.need[other]+1)
					}
				}
			}
			is, e := affine.Holds(wires, b.need)
			if e != api.OK || !is {
				t.Fatal(wires, b.need, e)
			}
			for k, n := range b.need {
				if n > proof[k] {
					t.Fatal(wires, k, n, proof[k])
				}
			}
		}
		for k := 0; k < len(proof); k += 1 + wires*wires {
			proof[k]++
			if is, e := affine.Holds(wires, proof); e != api.OK || is {
				t.Error(wires, k, e)
			}
			proof[k]--
		}
	}
}

// R4

func TestMemory(t *testing.T) {
	m, other := rows(5, 3, 6, 4), rows(1, 2, 1, 4)
	c := circuit(3, cx(0, 1), swap(1, 2), x(0))
	var outs []api.Affine
	for range 2 {
		a, _ := affine.Compose(m, other)
		b, _ := affine.Inverse(m)
		d, _ := affine.Identity(3)
		f, _ := affine.Nth(3, 77)
		g, _ := affine.Of(c)
		outs = append(outs, a, b, d, f, g)
		for _, y := range outs {
			clear(y.Rows)
		}
		outs = nil
		for _, write := range []func(api.Affine) (api.Circuit, api.Errno){affine.Circuit, affine.Shortest} {
			d, e := write(m)
			if e != api.OK || len(d.Gates) == 0 {
				t.Error(d, e)
			}
			for i := range d.Gates {
				for k := range i {
					if &d.Gates[i].Wires[0] == &d.Gates[k].Wires[0] {
						t.Error(i, k)
					}
				}
				if len(d.Gates[i].Wires) != circ.Arity(d.Gates[i].Kind) {
					t.Error(d)
				}
				d.Gates[i].Wires = append(d.Gates[i].Wires, 9)
				clear(d.Gates[i].Wires)
			}
		}
		l, _ := affine.Parities(c)
		for _, had := range l {
			had = append(had, 9)
			clear(had)
		}
		p, _ := affine.Proof(3)
		clear(p)
	}
	again, _ := affine.Compose(m, other)
	if !same(m, rows(5, 3, 6, 4)) || !same(other, rows(1, 2, 1, 4)) || !circ.Same(c, circuit(3, cx(0, 1), swap(1, 2), x(0))) || !same(again, modelTable(m).then(modelTable(other)).affine()) {
		t.Error(m, other, c, again)
	}
}

// P0.1

func TestAnyArguments(t *testing.T) {
	var d draws
	odd := []int{0, 1, 2, 3, -1, 12, 13, 63, 64, 4095, 4096, math.MaxInt, math.MinInt, math.MaxInt - 1, 1 << 40}
	pick := func() int { return odd[d.below(len(odd))] }
	list := func() []int {
		var l []int
		for range d.below(5) {
			l = append(l, pick())
		}
		return l
	}
	for range 3000 {
		m := api.Affine{Wires: pick(), Rows: list(), Shift: pick()}
		for _, ask := range asks() {
			ask(m)
		}
		c := api.Circuit{Wires: pick(), Bits: pick()}
		for range d.below(3) {
			c.Gates = append(c.Gates, api.Gate{Kind: d.below(17) - 1, Wires: list(), Bit: pick(), If: pick()})
		}
		affine.Of(c)
		affine.Parities(c)
		affine.Same(m, api.Affine{Wires: pick(), Rows: list(), Shift: pick()})
		affine.Identity(pick())
		affine.Count(pick())
		affine.Nth(pick(), pick())
		affine.Proof(min(pick(), 2))
		affine.Holds(pick(), list())
	}
}
