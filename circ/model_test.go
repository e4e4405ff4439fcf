package circ_test

import (
	"math"
	"math/cmplx"
	"slices"
	"strconv"
	"strings"

	"spoondrift/api"
)

// The model says of gates and circuits what the chapter says, word by word; run tells what a circuit does, amplitude by amplitude.

// draws are numbers that look drawn, the same ones in each run.
type draws uint64

func (d *draws) below(n int) int {
	*d = *d*6364136223846793005 + 1442695040888963407
	return int(uint64(*d)>>33) % n
}

// gate returns a right gate of one of the kinds, or of any one; the circuit has 3 wires at least.
func (d *draws) gate(wires, bits int, kinds ...int) api.Gate {
	kind := 1 + d.below(14)
	if len(kinds) > 0 {
		kind = kinds[d.below(len(kinds))]
	}
	if kind == api.Measure && bits == 0 {
		kind = api.Z
	}
	g := api.Gate{Kind: kind}
	for len(g.Wires) < modelArity(kind) {
		if wire := d.below(wires); !slices.Contains(g.Wires, wire) {
			g.Wires = append(g.Wires, wire)
		}
	}
	switch {
	case kind == api.Measure:
		g.Bit = d.below(bits)
	case kind != api.Reset && d.below(3) == 0:
		g.If = d.below(bits + 1)
	}
	return g
}

func (d *draws) circuit(wires, bits, gates int, kinds ...int) api.Circuit {
	c := api.Circuit{Wires: wires, Bits: bits}
	for range gates {
		c.Gates = append(c.Gates, d.gate(wires, bits, kinds...))
	}
	return c
}

// few turns Measures and Resets into Z as soon as there are more than so many, so that there are few outcomes.
func few(c api.Circuit, most int) api.Circuit {
	for i, g := range c.Gates {
		if g.Kind == api.Measure || g.Kind == api.Reset {
			if most--; most < 0 {
				c.Gates[i] = api.Gate{Kind: api.Z, Wires: g.Wires}
			}
		}
	}
	return c
}

// plainKinds are those of gates that a plain circuit can have.
func plainKinds() []int {
	var l []int
	for kind := api.X; kind <= api.CCX; kind++ {
		l = append(l, kind)
	}
	return l
}

func clone(c api.Circuit) api.Circuit {
	gates := slices.Clone(c.Gates)
	for i := range gates {
		gates[i].Wires = slices.Clone(gates[i].Wires)
	}
	c.Gates = gates
	return c
}

func equal(c, d api.Circuit) bool {
	if c.Wires != d.Wires || c.Bits != d.Bits || len(c.Gates) != len(d.Gates) {
		return false
	}
	for i, g := range c.Gates {
		if !equalGates(g, d.Gates[i]) {
			return false
		}
	}
	return true
}

func equalGates(g, h api.Gate) bool { return modelCompare(g, h) == 0 }

func modelArity(kind int) int {
	switch kind {
	case api.X, api.Y, api.Z, api.H, api.S, api.Sd, api.T, api.Td, api.Measure, api.Reset:
		return 1
	case api.CX, api.CZ, api.Swap:
		return 2
	case api.CCX:
		return 3
	}
	return 0
}

func modelCheck(c api.Circuit) api.Errno {
	if c.Wires < 1 || c.Wires > 12 || c.Bits < 0 || c.Bits > 8 {
		return api.ErrRange
	}
	if len(c.Gates) > 120 {
		return api.ErrMany
	}
	for _, g := range c.Gates {
		if g.Kind < 1 || g.Kind > 14 {
			return api.ErrRange
		}
		if len(g.Wires) != modelArity(g.Kind) {
			return api.ErrMany
		}
		for _, wire := range g.Wires {
			if wire < 0 || wire > c.Wires-1 {
				return api.ErrNot
			}
		}
		for i := range g.Wires {
			for k := range i {
				if g.Wires[i] == g.Wires[k] {
					return api.ErrTwice
				}
			}
		}
		if g.If < 0 || g.If > c.Bits {
			return api.ErrNot
		}
		if g.Kind == api.Measure && (g.Bit < 0 || g.Bit > c.Bits-1) {
			return api.ErrNot
		}
		if (g.Kind == api.Measure || g.Kind == api.Reset) && g.If != 0 {
			return api.ErrClash
		}
		if g.Kind != api.Measure && g.Bit != 0 {
			return api.ErrClash
		}
	}
	return api.OK
}

// modelCompare is below 0 if g comes before h in the order of gates, and 0 if they are the same.
func modelCompare(g, h api.Gate) int {
	if g.Kind != h.Kind {
		return g.Kind - h.Kind
	}
	if c := slices.Compare(g.Wires, h.Wires); c != 0 {
		return c
	}
	if g.Bit != h.Bit {
		return g.Bit - h.Bit
	}
	return g.If - h.If
}

// modelAxis is 0 if a gate has no axis on a wire.
func modelAxis(g api.Gate, wire int) byte {
	place := slices.Index(g.Wires, wire)
	axes := map[int]string{
		api.X: "x", api.Y: "y", api.Z: "z", api.H: "h", api.S: "z", api.Sd: "z", api.T: "z", api.Td: "z", api.Measure: "z",
		api.CX: "zx", api.CZ: "zz", api.CCX: "zzx",
	}[g.Kind]
	if place >= len(axes) {
		return 0
	}
	return axes[place]
}

// modelBits reports whether g writes a bit that h reads or writes, or the other way round.
func modelBits(g, h api.Gate) bool {
	for range 2 {
		if g.Kind == api.Measure && (h.If == g.Bit+1 || h.Kind == api.Measure && h.Bit == g.Bit) {
			return true
		}
		g, h = h, g
	}
	return false
}

func modelMeet(g, h api.Gate) bool {
	return modelBits(g, h) || slices.ContainsFunc(g.Wires, func(wire int) bool { return slices.Contains(h.Wires, wire) })
}

func modelCommute(g, h api.Gate) bool {
	if !modelMeet(g, h) {
		return true
	}
	if modelBits(g, h) {
		return false
	}
	same := true
	for _, wire := range g.Wires {
		if slices.Contains(h.Wires, wire) && (modelAxis(g, wire) == 0 || modelAxis(g, wire) != modelAxis(h, wire)) {
			same = false
		}
	}
	if same {
		return true
	}
	kinds := [2]int{g.Kind, h.Kind}
	if kinds != [2]int{api.Swap, api.Swap} && kinds != [2]int{api.Swap, api.CZ} && kinds != [2]int{api.CZ, api.Swap} {
		return false
	}
	return sorted(g.Wires, 2) == sorted(h.Wires, 2)
}

// sorted is the text of some wires with the first n of them rising.
func sorted(wires []int, n int) string {
	l := slices.Clone(wires)
	slices.Sort(l[:n])
	text := ""
	for _, wire := range l {
		text += " " + strconv.Itoa(wire)
	}
	return text
}

func modelUndo(g, h api.Gate) bool {
	turned := map[int]int{api.S: api.Sd, api.Sd: api.S, api.T: api.Td, api.Td: api.T}
	kind, ok := turned[g.Kind]
	if !ok {
		kind = g.Kind
	}
	if g.If != h.If || h.Kind != kind || kind == api.Measure || kind == api.Reset {
		return false
	}
	free := map[int]int{api.CZ: 2, api.Swap: 2, api.CCX: 2}[kind]
	return sorted(g.Wires, free) == sorted(h.Wires, free)
}

func modelLayers(c api.Circuit) []int {
	layers := make([]int, len(c.Gates))
	for j := range c.Gates {
		for i := range j {
			if modelMeet(c.Gates[i], c.Gates[j]) && layers[j] <= layers[i] {
				layers[j] = layers[i] + 1
			}
		}
	}
	return layers
}

func modelTidy(c api.Circuit) api.Circuit {
	left := clone(c).Gates
	c.Gates = nil
	for len(left) > 0 {
		next := -1
		for j := range left {
			looked := true
			for i := range j {
				looked = looked && modelCommute(left[i], left[j])
			}
			if looked && (next < 0 || modelCompare(left[j], left[next]) < 0) {
				next = j
			}
		}
		c.Gates = append(c.Gates, left[next])
		left = slices.Delete(left, next, next+1)
	}
	return c
}

func modelCancel(c api.Circuit) api.Circuit {
	var list []api.Gate
	for _, g := range clone(c).Gates {
		out := false
		for k := len(list) - 1; k >= 0; k-- {
			if modelUndo(list[k], g) {
				list = slices.Delete(list, k, k+1)
				out = true
				break
			}
			if !modelCommute(list[k], g) {
				break
			}
		}
		if !out {
			list = append(list, g)
		}
	}
	c.Gates = list
	return c
}

// ends are the states and bits in the end, for what all Measures and Resets find; a Measure is told by what it is, and by how many that are the same come before it.
type ends map[string]end

type end struct {
	state []complex128
	bits  int
}

// run does a circuit on a basis state with these bits at the start; branches that cannot be are kept, too.
func run(c api.Circuit, basis, bits int) ends {
	state := make([]complex128, 1<<c.Wires)
	state[basis] = 1
	out := ends{}
	names := make([]string, len(c.Gates))
	for i, g := range c.Gates {
		same := 0
		for _, h := range c.Gates[:i] {
			if equalGates(g, h) {
				same++
			}
		}
		names[i] = strconv.Itoa(g.Kind) + sorted(g.Wires, 0) + " " + strconv.Itoa(g.Bit) + " " + strconv.Itoa(same)
	}
	var from func(at int, state []complex128, bits int, found []string)
	from = func(at int, state []complex128, bits int, found []string) {
		if at == len(c.Gates) {
			told := slices.Clone(found)
			slices.Sort(told)
			out[strings.Join(told, ", ")] = end{state, bits}
			return
		}
		g := c.Gates[at]
		switch {
		case g.Kind == api.Measure || g.Kind == api.Reset:
			for outcome := range 2 {
				left, kept := projected(state, g.Wires[0], outcome), bits
				if g.Kind == api.Measure {
					kept = bits&^(1<<g.Bit) | outcome<<g.Bit
				} else if outcome == 1 {
					left = done(left, api.X, g.Wires)
				}
				from(at+1, left, kept, append(slices.Clone(found), names[at]+": "+strconv.Itoa(outcome)))
			}
		case g.If > 0 && bits>>(g.If-1)&1 == 0:
			from(at+1, state, bits, found)
		default:
			from(at+1, done(state, g.Kind, g.Wires), bits, found)
		}
	}
	from(0, state, bits, nil)
	return out
}

func projected(state []complex128, wire, value int) []complex128 {
	out := make([]complex128, len(state))
	for k, x := range state {
		if k>>wire&1 == value {
			out[k] = x
		}
	}
	return out
}

// done does a gate on a state, basis state by basis state, as the document says it of the kinds.
func done(state []complex128, kind int, wires []int) []complex128 {
	out := make([]complex128, len(state))
	for k, x := range state {
		last := wires[len(wires)-1]
		on, turned := k>>last&1 == 1, k^1<<last
		others := true
		for _, wire := range wires[:len(wires)-1] {
			others = others && k>>wire&1 == 1
		}
		switch kind {
		case api.X:
			out[turned] += x
		case api.Y:
			if on {
				out[turned] += -1i * x
			} else {
				out[turned] += 1i * x
			}
		case api.H:
			root := complex(1/math.Sqrt2, 0)
			out[turned] += root * x
			if on {
				root = -root
			}
			out[k] += root * x
		case api.CX, api.CCX:
			if others {
				k = turned
			}
			out[k] += x
		case api.Swap:
			if others != on {
				k ^= 1<<wires[0] | 1<<wires[1]
			}
			out[k] += x
		default: // Z, S, Sd, T, Td, CZ
			if on && others {
				x *= cmplx.Rect(1, map[int]float64{api.Z: 4, api.S: 2, api.Sd: -2, api.T: 1, api.Td: -1, api.CZ: 4}[kind]*math.Pi/4)
			}
			out[k] += x
		}
	}
	return out
}

func sameEnds(a, b ends) bool {
	if len(a) != len(b) {
		return false
	}
	for found, x := range a {
		y, ok := b[found]
		if !ok || x.bits != y.bits || !slices.EqualFunc(x.state, y.state, func(p, q complex128) bool { return cmplx.Abs(p-q) < 1e-9 }) {
			return false
		}
	}
	return true
}

// alike reports whether two circuits do the same on every basis state, with any bits at the start, and for every outcome.
func alike(c, d api.Circuit) bool {
	for basis := range 1 << c.Wires {
		for bits := range 1 << c.Bits {
			if !sameEnds(run(c, basis, bits), run(d, basis, bits)) {
				return false
			}
		}
	}
	return true
}
