package full_test

import (
	"slices"

	"spoondrift/api"
	"spoondrift/full"
	"spoondrift/ring"
)

// The model says of states and runs what the chapter says, word by word, basis state by basis state and one row of outcomes after the other.

// draws are numbers that look drawn, the same ones in each run.
type draws uint64

func (d *draws) below(n int) int {
	*d = *d*6364136223846793005 + 1442695040888963407
	return int(uint64(*d)>>33) % n
}

// num returns a number with coefficients up to most, and a K up to k; often it is 0 or a power of w.
func (d *draws) num(most, k int) api.Num {
	switch d.below(4) {
	case 0:
		return api.Num{K: d.below(k + 1)}
	case 1:
		return ring.Omega(d.below(8))
	}
	part := func() int { return d.below(2*most+1) - most }
	return api.Num{A: part(), B: part(), C: part(), D: part(), K: d.below(k + 1)}
}

func (d *draws) state(wires, most, k int) []api.Num {
	v := make([]api.Num, 1<<wires)
	for i := range v {
		v[i] = d.num(most, k)
	}
	return v
}

// written returns the same values in other forms, with a greater K.
func (d *draws) written(v []api.Num) []api.Num {
	out := slices.Clone(v)
	for i, x := range out {
		if twos := d.below(3); x.K+2*twos <= api.MaxRoot && max(x.A, x.B, x.C, x.D, -x.A, -x.B, -x.C, -x.D) <= 1<<20 {
			out[i] = api.Num{A: x.A << twos, B: x.B << twos, C: x.C << twos, D: x.D << twos, K: x.K + 2*twos}
		}
	}
	return out
}

// gate returns a right gate of one of the kinds for which there are enough wires and bits.
func (d *draws) gate(wires, bits int, kinds []int) api.Gate {
	kind := kinds[d.below(len(kinds))]
	for modelArity(kind) > wires || kind == api.Measure && bits == 0 {
		kind = kinds[d.below(len(kinds))]
	}
	g := api.Gate{Kind: kind}
	for len(g.Wires) < modelArity(kind) {
		if wire := d.below(wires); !slices.Contains(g.Wires, wire) {
			g.Wires = append(g.Wires, wire)
		}
	}
	switch {
	case kind == api.Measure:
		g.Bit = d.below(bits)
	case bits > 0 && kind != api.Reset && d.below(3) == 0:
		g.If = d.below(bits + 1)
	}
	return g
}

func (d *draws) circuit(wires, bits, gates int, kinds []int) api.Circuit {
	c := api.Circuit{Wires: wires, Bits: bits}
	for range gates {
		c.Gates = append(c.Gates, d.gate(wires, bits, kinds))
	}
	return c
}

// plainKinds are those of gates that a plain circuit can have; anyKinds has H, Measure and Reset more often.
func plainKinds() []int {
	var l []int
	for kind := api.X; kind <= api.CCX; kind++ {
		l = append(l, kind)
	}
	return l
}

func anyKinds() []int {
	return append(plainKinds(), api.H, api.H, api.H, api.Measure, api.Measure, api.Measure, api.Reset)
}

// few leaves the first Measures and Resets of a circuit, and takes away the others.
func few(c api.Circuit, most int) api.Circuit {
	c.Gates = slices.DeleteFunc(slices.Clone(c.Gates), func(g api.Gate) bool {
		if finds(g) {
			most--
		}
		return finds(g) && most < 0
	})
	return c
}

func finds(g api.Gate) bool { return g.Kind == api.Measure || g.Kind == api.Reset }

func modelArity(kind int) int {
	switch kind {
	case api.CX, api.CZ, api.Swap:
		return 2
	case api.CCX:
		return 3
	}
	return 1
}

// leastOf returns a state with all amplitudes in least form.
func leastOf(v []api.Num) []api.Num {
	out := slices.Clone(v)
	for i := range out {
		out[i], _ = ring.Least(out[i])
	}
	return out
}

func modelNorm(v []api.Num) (api.Num, api.Errno) {
	sum := api.Num{}
	for _, x := range v {
		norm, e := ring.Norm(x)
		if e == api.OK {
			sum, e = ring.Add(sum, norm)
		}
		if e != api.OK {
			return api.Num{}, e
		}
	}
	return sum, api.OK
}

// part is a product of an amplitude that is at from, on its way to the basis state at to.
type part struct {
	to, from int
	factor   api.Num
}

// parts are what a gate does to the basis state k, as the document says it of the kinds.
func parts(kind int, wires []int, k int) []part {
	one, last := ring.Omega(0), wires[len(wires)-1]
	on, turned := k>>last&1 == 1, k^1<<last
	others := true
	for _, wire := range wires[:len(wires)-1] {
		others = others && k>>wire&1 == 1
	}
	turn := map[int]int{api.Z: 4, api.CZ: 4, api.S: 2, api.Sd: 6, api.T: 1, api.Td: 7}
	switch kind {
	case api.X:
		return []part{{turned, k, one}}
	case api.Y:
		if on {
			return []part{{turned, k, ring.Omega(6)}}
		}
		return []part{{turned, k, ring.Omega(2)}}
	case api.H:
		root, minus := api.Num{A: 1, K: 1}, api.Num{A: -1, K: 1}
		if on {
			return []part{{turned, k, root}, {k, k, minus}}
		}
		return []part{{k, k, root}, {turned, k, root}}
	case api.CX, api.CCX:
		if others {
			return []part{{turned, k, one}}
		}
	case api.Swap:
		if others != on {
			return []part{{k ^ 1<<wires[0] ^ 1<<wires[1], k, one}}
		}
	default:
		if on && others {
			return []part{{k, k, ring.Omega(turn[kind])}}
		}
	}
	return []part{{k, k, one}}
}

// modelApply puts the parts together, those from lesser basis states first.
func modelApply(v []api.Num, kind int, wires []int) ([]api.Num, api.Errno) {
	out := make([]api.Num, len(v))
	begun := make([]bool, len(v))
	for k := range v {
		for _, p := range parts(kind, wires, k) {
			product, e := ring.Mul(p.factor, v[p.from])
			if e == api.OK && begun[p.to] {
				product, e = ring.Add(out[p.to], product)
			}
			if e != api.OK {
				return nil, e
			}
			out[p.to], begun[p.to] = product, true
		}
	}
	return out, api.OK
}

func modelFind(v []api.Num, wire, outcome int) []api.Num {
	out := leastOf(v)
	for k := range out {
		if k>>wire&1 != outcome {
			out[k] = api.Num{}
		}
	}
	return out
}

func dead(v []api.Num) bool {
	return !slices.ContainsFunc(v, func(x api.Num) bool { return x.A != 0 || x.B != 0 || x.C != 0 || x.D != 0 })
}

// modelAlong runs a right circuit along outcomes, as many as it has, even to a dead end.
func modelAlong(c api.Circuit, v []api.Num, outcomes []int) (full.Branch, api.Errno) {
	b := full.Branch{Outcomes: slices.Clone(outcomes), State: leastOf(v)}
	e := api.OK
	for _, g := range c.Gates {
		if g.If > 0 && b.Bits>>(g.If-1)&1 == 0 {
			continue
		}
		if !finds(g) {
			if b.State, e = modelApply(b.State, g.Kind, g.Wires); e != api.OK {
				return full.Branch{}, e
			}
			continue
		}
		outcome := outcomes[0]
		outcomes = outcomes[1:]
		b.State = modelFind(b.State, g.Wires[0], outcome)
		if g.Kind == api.Measure {
			b.Bits = b.Bits - (b.Bits>>g.Bit&1)<<g.Bit + outcome<<g.Bit
		} else if outcome == 1 {
			b.State, _ = modelApply(b.State, api.X, g.Wires)
		}
	}
	return b, api.OK
}

// rowsOfOutcomes are all rows of n outcomes, in lexicographic order.
func rowsOfOutcomes(n int) [][]int {
	l := [][]int{nil}
	for range n {
		var longer [][]int
		for _, row := range l {
			for o := range 2 {
				longer = append(longer, append(slices.Clone(row), o))
			}
		}
		l = longer
	}
	return l
}

func modelFindings(c api.Circuit) int { return len(c.Gates) - len(few(c, 0).Gates) }

func modelRun(c api.Circuit, v []api.Num) ([]full.Branch, api.Errno) {
	var l []full.Branch
	for _, outcomes := range rowsOfOutcomes(modelFindings(c)) {
		b, e := modelAlong(c, v, outcomes)
		if e != api.OK {
			return nil, e
		}
		if !dead(b.State) {
			l = append(l, b)
		}
	}
	return l, api.OK
}

func modelBits(c api.Circuit, v []api.Num) ([]api.Num, api.Errno) {
	l, e := modelRun(c, v)
	sums := make([]api.Num, 1<<c.Bits)
	for _, b := range l {
		norm, f := modelNorm(b.State)
		if f == api.OK {
			sums[b.Bits], f = ring.Add(sums[b.Bits], norm)
		}
		if f != api.OK {
			e = f
		}
	}
	if e != api.OK {
		return nil, e
	}
	return sums, api.OK
}

func sameBranch(a, b full.Branch) bool {
	return a.Bits == b.Bits && slices.Equal(a.Outcomes, b.Outcomes) && slices.Equal(a.State, b.State)
}

func equal(m, n [][]api.Num) bool {
	return slices.EqualFunc(m, n, func(a, b []api.Num) bool { return slices.Equal(a, b) })
}
