package rev_test

import (
	"slices"

	"spoondrift/api"
	"spoondrift/rev"
)

// The model says what the chapter says, word by word: a state is the list of the values of its wires, and all states, all words of gates and all expressions are gone through.

// draws are numbers that look drawn, the same ones in each run.
type draws uint64

func (d *draws) below(n int) int {
	*d = *d*6364136223846793005 + 1442695040888963407
	return int(uint64(*d)>>33) % n
}

// some returns so many different numbers below n, in any order.
func (d *draws) some(many, n int) []int {
	var l []int
	for len(l) < many {
		if k := d.below(n); !slices.Contains(l, k) {
			l = append(l, k)
		}
	}
	return l
}

// circuit returns a classical circuit.
func (d *draws) circuit(wires, gates int) api.Circuit {
	c := api.Circuit{Wires: wires}
	for range gates {
		kinds := []int{api.X, api.CX, api.Swap, api.CCX}
		kind := kinds[d.below(min(wires*wires, len(kinds)))]
		if kind == api.CCX && wires < 3 {
			kind = api.CX
		}
		c.Gates = append(c.Gates, api.Gate{Kind: kind, Wires: d.some(modelArity(kind), wires)})
	}
	return c
}

// permutation returns the numbers below n in any order.
func (d *draws) permutation(n int) []int { return d.some(n, n) }

// expression returns a good expression of at most this size.
func (d *draws) expression(vars, size int) api.Bool {
	leaves := []api.Bool{v(d.below(vars)), v(d.below(vars)), v(d.below(vars)), of(rev.No), of(rev.Yes)}
	kind := []int{rev.And, rev.Xor, rev.Or, rev.Not}[d.below(4)]
	switch {
	case size < 2 || d.below(8) == 0:
		return leaves[d.below(len(leaves))]
	case kind == rev.Not || size == 2:
		return of(rev.Not, d.expression(vars, size-1))
	}
	first := 1 + d.below(size-2)
	return of(kind, d.expression(vars, first), d.expression(vars, size-1-first))
}

func bit(x, k int) bool { return x>>k&1 == 1 }

func modelArity(kind int) int { return map[int]int{api.X: 1, api.CX: 2, api.Swap: 2, api.CCX: 3}[kind] }

// modelRun returns what the gates make of a state.
func modelRun(wires int, gates []api.Gate, state int) int {
	values := make([]bool, wires)
	for k := range values {
		values[k] = bit(state, k)
	}
	for _, g := range gates {
		w := g.Wires
		switch g.Kind {
		case api.X:
			values[w[0]] = !values[w[0]]
		case api.CX:
			if values[w[0]] {
				values[w[1]] = !values[w[1]]
			}
		case api.Swap:
			values[w[0]], values[w[1]] = values[w[1]], values[w[0]]
		case api.CCX:
			if values[w[0]] && values[w[1]] {
				values[w[2]] = !values[w[2]]
			}
		}
	}
	out := 0
	for k, value := range values {
		if value {
			out += 1 << k
		}
	}
	return out
}

func modelTable(c api.Circuit) []int {
	table := make([]int, 1<<c.Wires)
	for state := range table {
		table[state] = modelRun(c.Wires, c.Gates, state)
	}
	return table
}

// modelControlled returns the gate that turns a wire where the controls are 1.
func modelControlled(wire int, controls []int) api.Gate {
	kind := []int{api.X, api.CX, api.CCX}[len(controls)]
	return api.Gate{Kind: kind, Wires: slices.Concat(controls, []int{wire})}
}

func modelBits(x int) []int {
	var l []int
	for k := range 20 {
		if bit(x, k) {
			l = append(l, k)
		}
	}
	return l
}

// modelCircuit follows the chapter, asking again and again which bits there are.
func modelCircuit(p []int) api.Circuit {
	wires := map[int]int{2: 1, 4: 2, 8: 3}[len(p)]
	var list []api.Gate
	f := func(i int) int { return modelRun(wires, list, p[i]) }
	for _, k := range modelBits(f(0)) {
		list = append(list, modelControlled(k, nil))
	}
	for i := 1; i < len(p); i++ {
		for i&^f(i) != 0 {
			list = append(list, modelControlled(modelBits(i &^ f(i))[0], modelBits(f(i))))
		}
		for f(i)&^i != 0 {
			list = append(list, modelControlled(modelBits(f(i) &^ i)[0], modelBits(i)))
		}
	}
	return api.Circuit{Wires: wires, Gates: backwards(list)}
}

func backwards(l []api.Gate) []api.Gate {
	l = slices.Clone(l)
	slices.Reverse(l)
	return l
}

// modelCycles begins with each number, and leaves those cycles out that have a lesser one.
func modelCycles(p []int) [][]int {
	var l [][]int
	for first := range p {
		cycle := []int{first}
		for x := p[first]; x != first; x = p[x] {
			cycle = append(cycle, x)
		}
		if len(cycle) > 1 && slices.Min(cycle) == first {
			l = append(l, cycle)
		}
	}
	return l
}

// modelEven counts the pairs that are in the wrong order.
func modelEven(p []int) bool {
	pairs := 0
	for i := range p {
		for k := range i {
			if p[k] > p[i] {
				pairs++
			}
		}
	}
	return pairs%2 == 0
}

// permutations yields all lists of the numbers below n.
func permutations(n int, yield func([]int)) {
	var extend func(l []int)
	extend = func(l []int) {
		if len(l) == n {
			yield(slices.Clone(l))
			return
		}
		for x := range n {
			if !slices.Contains(l, x) {
				extend(append(slices.Clone(l), x))
			}
		}
	}
	extend(nil)
}

// modelGates returns all gates X, CX and CCX.
func modelGates(wires int) []api.Gate {
	return map[int][]api.Gate{
		1: {x(0)},
		2: {x(0), x(1), cx(0, 1), cx(1, 0)},
		3: {x(0), x(1), x(2), cx(0, 1), cx(0, 2), cx(1, 0), cx(1, 2), cx(2, 0), cx(2, 1), ccx(0, 1, 2), ccx(0, 2, 1), ccx(1, 2, 0)},
	}[wires]
}

// modelNeed goes through all words of up to four gates, and returns how many gates each permutation needs that one of them makes; a table of eight is the key, with noughts behind the shorter ones.
func modelNeed(wires int) map[[8]int]int {
	need := map[[8]int]int{}
	gates := modelGates(wires)
	var tables [][]int
	for _, g := range gates {
		tables = append(tables, modelTable(api.Circuit{Wires: wires, Gates: []api.Gate{g}}))
	}
	for many := range rev.MaxLeast + 1 {
		var extend func(left int, t []int)
		extend = func(left int, t []int) {
			if left == 0 {
				if _, ok := need[key(t)]; !ok {
					need[key(t)] = many
				}
				return
			}
			for _, u := range tables {
				next := make([]int, len(t))
				for i, y := range t {
					next[i] = u[y]
				}
				extend(left-1, next)
			}
		}
		extend(many, modelTable(api.Circuit{Wires: wires}))
	}
	return need
}

func key(p []int) [8]int {
	var k [8]int
	copy(k[:], p)
	return k
}

// modelSize counts expressions.
func modelSize(e api.Bool) int {
	size := 1
	for _, arg := range e.Args {
		size += modelSize(arg)
	}
	return size
}

// modelValue calculates with 0 and 1.
func modelValue(e api.Bool, x int) int {
	var l []int
	for _, arg := range e.Args {
		l = append(l, modelValue(arg, x))
	}
	switch e.Kind {
	case rev.Var:
		return x >> e.Var & 1
	case rev.Not:
		return 1 - l[0]
	case rev.And:
		return l[0] * l[1]
	case rev.Xor:
		return (l[0] + l[1]) % 2
	case rev.Or:
		return max(l[0], l[1])
	case rev.Yes:
		return 1
	}
	return 0
}

// modelAdd returns the gates that add an expression to a wire t, with the first free wire f.
func modelAdd(e api.Bool, t, f int) []api.Gate {
	switch e.Kind {
	case rev.Yes:
		return []api.Gate{x(t)}
	case rev.Var:
		return []api.Gate{cx(e.Var, t)}
	case rev.Not:
		return append(modelAdd(e.Args[0], t, f), x(t))
	case rev.Xor:
		return append(modelAdd(e.Args[0], t, f), modelAdd(e.Args[1], t, f)...)
	case rev.Or:
		return modelAdd(of(rev.Not, of(rev.And, of(rev.Not, e.Args[0]), of(rev.Not, e.Args[1]))), t, f)
	case rev.And:
		var wires []int
		var before []api.Gate
		for _, arg := range e.Args {
			if arg.Kind == rev.Var {
				wires = append(wires, arg.Var)
				continue
			}
			wires = append(wires, f)
			f++
			before = append(before, modelAdd(arg, wires[len(wires)-1], f)...)
		}
		last := ccx(wires[0], wires[1], t)
		if wires[0] == wires[1] {
			last = cx(wires[0], t)
		}
		return slices.Concat(before, []api.Gate{last}, backwards(before))
	}
	return nil
}

// modelCompile returns the compiled circuit, or the error of one that is too wide or too long.
func modelCompile(e api.Bool, vars int) (api.Circuit, api.Errno) {
	c := api.Circuit{Wires: vars + 1, Gates: modelAdd(e, vars, vars+1)}
	for _, g := range c.Gates {
		for _, wire := range g.Wires {
			c.Wires = max(c.Wires, wire+1)
		}
	}
	switch {
	case c.Wires > 12:
		return api.Circuit{}, api.ErrFull
	case len(c.Gates) > 120:
		return api.Circuit{}, api.ErrMany
	}
	return c, api.OK
}

// expressions returns all good expressions of just this size.
func expressions(vars, size int) []api.Bool {
	var l []api.Bool
	if size == 1 {
		for k := range vars {
			l = append(l, v(k))
		}
		return append(l, of(rev.No), of(rev.Yes))
	}
	for _, arg := range expressions(vars, size-1) {
		l = append(l, of(rev.Not, arg))
	}
	for first := 1; first < size-1; first++ {
		for _, a := range expressions(vars, first) {
			for _, b := range expressions(vars, size-1-first) {
				l = append(l, of(rev.And, a, b), of(rev.Xor, a, b), of(rev.Or, a, b))
			}
		}
	}
	return l
}

// modelClean goes through the states, wire by wire.
func modelClean(c api.Circuit, ancillas []int) (int, api.Errno) {
	for state := range 1 << c.Wires {
		noughts, left := true, false
		out := modelRun(c.Wires, c.Gates, state)
		for _, k := range ancillas {
			noughts = noughts && !bit(state, k)
			left = left || bit(out, k)
		}
		if noughts && left {
			return state, api.OK
		}
	}
	return 0, api.ErrNone
}

func modelBorrowed(c api.Circuit, wires []int) (int, api.Errno) {
	for state := range 1 << c.Wires {
		without := state
		for _, k := range wires {
			if bit(state, k) {
				without -= 1 << k
			}
		}
		out, other := modelRun(c.Wires, c.Gates, state), modelRun(c.Wires, c.Gates, without)
		for k := range c.Wires {
			before := other
			if slices.Contains(wires, k) {
				before = state
			}
			if bit(out, k) != bit(before, k) {
				return state, api.OK
			}
		}
	}
	return 0, api.ErrNone
}
