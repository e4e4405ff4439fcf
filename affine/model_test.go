package affine_test

import (
	"slices"

	"spoondrift/api"
)

// The model says of maps what the chapter says, word by word: a map, and a circuit, is the list of what it takes each basis state to.

// draws are numbers that look drawn, the same ones in each run.
type draws uint64

func (d *draws) below(n int) int {
	*d = *d*6364136223846793005 + 1442695040888963407
	return int(uint64(*d)>>33) % n
}

// circuit returns an affine circuit.
func (d *draws) circuit(wires, gates int) api.Circuit {
	c := api.Circuit{Wires: wires}
	for range gates {
		i, k := d.below(wires), d.below(wires)
		switch {
		case i == k:
			c.Gates = append(c.Gates, x(i))
		case d.below(3) == 0:
			c.Gates = append(c.Gates, swap(i, k))
		default:
			c.Gates = append(c.Gates, cx(i, k))
		}
	}
	return c
}

// affine returns a right map.
func (d *draws) affine(wires int) api.Affine {
	for {
		m := api.Affine{Wires: wires, Shift: d.below(1 << wires)}
		for range wires {
			m.Rows = append(m.Rows, d.below(1<<wires))
		}
		if modelRight(m) {
			return m
		}
	}
}

// table is what each basis state is taken to.
type table []int

// modelTable goes through the bits one by one.
func modelTable(m api.Affine) table {
	t := make(table, 1<<m.Wires)
	for state := range t {
		for i, row := range m.Rows {
			common := 0
			for k := range m.Wires {
				if bit(state, k) && bit(row, k) {
					common++
				}
			}
			if (common%2 == 1) != bit(m.Shift, i) {
				t[state] |= 1 << i
			}
		}
	}
	return t
}

func bit(x, k int) bool { return x>>k&1 == 1 }

// modelRight reports whether the rows of a map can be inverted: then no two basis states are taken to the same one.
func modelRight(m api.Affine) bool {
	met := make([]bool, 1<<m.Wires)
	for _, y := range modelTable(m) {
		if met[y] {
			return false
		}
		met[y] = true
	}
	return true
}

// modelRun returns where a circuit takes a basis state.
func modelRun(c api.Circuit, state int) int {
	values := make([]bool, c.Wires)
	for k := range values {
		values[k] = bit(state, k)
	}
	for _, g := range c.Gates {
		a := g.Wires[0]
		switch g.Kind {
		case api.X:
			values[a] = !values[a]
		case api.CX:
			values[g.Wires[1]] = values[a] != values[g.Wires[1]]
		case api.Swap:
			values[a], values[g.Wires[1]] = values[g.Wires[1]], values[a]
		}
	}
	out := 0
	for k, v := range values {
		if v {
			out |= 1 << k
		}
	}
	return out
}

func modelCircuit(c api.Circuit) table {
	t := make(table, 1<<c.Wires)
	for state := range t {
		t[state] = modelRun(c, state)
	}
	return t
}

// then returns what t does, and then u.
func (t table) then(u table) table {
	out := make(table, len(t))
	for state, y := range t {
		out[state] = u[y]
	}
	return out
}

func (t table) still() bool {
	for state, y := range t {
		if state != y {
			return false
		}
	}
	return true
}

// affine returns the map that a table is of.
func (t table) affine() api.Affine {
	m := api.Affine{Shift: t[0]}
	for 1<<m.Wires < len(t) {
		m.Wires++
	}
	for i := range m.Wires {
		row := 0
		for k := range m.Wires {
			if bit(t[1<<k], i) != bit(t[0], i) {
				row |= 1 << k
			}
		}
		m.Rows = append(m.Rows, row)
	}
	return m
}

// order does a table again and again.
func (t table) order() int {
	n := 1
	for now := t; !now.still(); n++ {
		now = now.then(t)
	}
	return n
}

// fixed returns all basis states that are taken to themselves.
func (t table) fixed() []int {
	var l []int
	for state, y := range t {
		if state == y {
			l = append(l, state)
		}
	}
	return l
}

// modelReduced returns the reduced rows of a span with these members: for each lead the least member, as it has no other lead.
func modelReduced(members []int) []int {
	var rows []int
	for lead := api.MaxWires; lead >= 0; lead-- {
		least := 0
		for _, m := range members {
			if m>>lead == 1 && (least == 0 || m < least) {
				least = m
			}
		}
		if least != 0 {
			rows = append(rows, least)
		}
	}
	return rows
}

// modelCanonical follows the chapter, with rows as lists of bits.
func modelCanonical(m api.Affine) api.Circuit {
	n := m.Wires
	rows := make([][]bool, n)
	for i, row := range m.Rows {
		for k := range n {
			rows[i] = append(rows[i], bit(row, k))
		}
	}
	c := api.Circuit{Wires: n}
	add := func(from, to int) {
		for k, v := range rows[from] {
			rows[to][k] = rows[to][k] != v
		}
		c.Gates = append([]api.Gate{cx(from, to)}, c.Gates...)
	}
	for k := range n {
		if !rows[k][k] {
			j := k + 1
			for !rows[j][k] {
				j++
			}
			add(j, k)
		}
		for i := range n {
			if i != k && rows[i][k] {
				add(k, i)
			}
		}
	}
	for k := range n {
		if bit(m.Shift, k) {
			c.Gates = append(c.Gates, x(k))
		}
	}
	return c
}

// modelMaps returns all right maps, in order.
func modelMaps(wires int) []api.Affine {
	var l []api.Affine
	many := 1 << wires
	total := 1
	for range wires + 1 {
		total *= many
	}
	for number := range total {
		m := api.Affine{Wires: wires, Shift: number % many}
		for rest := number / many; len(m.Rows) < wires; rest /= many {
			m.Rows = slices.Insert(m.Rows, 0, rest%many)
		}
		if modelRight(m) {
			l = append(l, m)
		}
	}
	return l
}

// modelGates returns the small gates, in order.
func modelGates(wires int) []api.Gate {
	lists := map[int][]api.Gate{
		1: {x(0)},
		2: {x(0), x(1), cx(0, 1), cx(1, 0), swap(0, 1)},
		3: {x(0), x(1), x(2), cx(0, 1), cx(0, 2), cx(1, 0), cx(1, 2), cx(2, 0), cx(2, 1), swap(0, 1), swap(0, 2), swap(1, 2)},
	}
	return lists[wires]
}

// atlas has all right maps of so many wires, which map each gate leads to, behind a map and in front of it, and how many gates each map needs.
type atlas struct {
	wires          int
	maps           []api.Affine
	gates          []api.Gate
	behind, before [][]int
	need           []int
}

func modelAtlas(wires int) atlas {
	a := atlas{wires: wires, maps: modelMaps(wires), gates: modelGates(wires)}
	number := func(t table) int {
		m := t.affine()
		return slices.IndexFunc(a.maps, func(n api.Affine) bool { return n.Shift == m.Shift && slices.Equal(n.Rows, m.Rows) })
	}
	for _, m := range a.maps {
		var behind, before []int
		t := modelTable(m)
		for _, g := range a.gates {
			u := modelCircuit(api.Circuit{Wires: wires, Gates: []api.Gate{g}})
			behind, before = append(behind, number(t.then(u))), append(before, number(u.then(t)))
		}
		a.behind, a.before = append(a.behind, behind), append(a.before, before)
	}
	a.measure()
	return a
}

// measure lowers the numbers of gates until no gate lowers them any more.
func (a *atlas) measure() {
	a.need = slices.Repeat([]int{len(a.maps)}, len(a.maps))
	a.need[a.identity()] = 0
	for changed := true; changed; {
		changed = false
		for k, others := range a.behind {
			for _, other := range others {
				if a.need[k]+1 < a.need[other] {
					a.need[other], changed = a.need[k]+1, true
				}
			}
		}
	}
}

func (a *atlas) identity() int {
	return slices.IndexFunc(a.maps, func(m api.Affine) bool { return modelTable(m).still() })
}

// shortest takes the first gate that leads on, again and again: each of these gates undoes itself, and is taken away from the front.
func (a *atlas) shortest(k int) api.Circuit {
	c := api.Circuit{Wires: a.wires}
	for a.need[k] > 0 {
		for i, g := range a.gates {
			if a.need[a.before[k][i]] == a.need[k]-1 {
				c.Gates, k = append(c.Gates, g), a.before[k][i]
				break
			}
		}
	}
	return c
}

// holds follows the chapter.
func (a *atlas) holds(l []int) bool {
	if len(l) != len(a.maps) || l[a.identity()] != 0 {
		return false
	}
	for k, n := range l {
		if n < 0 {
			return false
		}
		for _, other := range a.behind[k] {
			if l[other] < n-1 || l[other] > n+1 {
				return false
			}
		}
	}
	return true
}

// words yields all circuits of so many gates of a list, in lexicographic order.
func words(wires, gates int, list []api.Gate, yield func(api.Circuit) bool) bool {
	var extend func(l []api.Gate) bool
	extend = func(l []api.Gate) bool {
		if len(l) == gates {
			return yield(api.Circuit{Wires: wires, Gates: slices.Clone(l)})
		}
		for _, g := range list {
			if !extend(append(slices.Clone(l), g)) {
				return false
			}
		}
		return true
	}
	return extend(nil)
}
