package full

import (
	"slices"

	"spoondrift/api"
	"spoondrift/circ"
)

// outcomes are those that were found, and 0 behind them.
type outcomes [MaxOutcomes]int

// head returns the first n outcomes, and 0 behind them.
func (o outcomes) head(n int) outcomes {
	clear(o[n:])
	return o
}

// path is a branch at work.
type path struct {
	outcomes outcomes
	known    int // how many of the outcomes were found
	bits     int
	state    state
}

// found returns the path on which a wire has this outcome.
func (p path) found(wire, outcome int) path {
	p.state = p.state.found(wire, outcome)
	p.outcomes[p.known] = outcome
	p.known++
	return p
}

// branch returns a path as a result, with memory of its own.
func (p path) branch() Branch {
	return Branch{Outcomes: slices.Clone(p.outcomes[:p.known]), Bits: p.bits, State: slices.Clone(p.state)}
}

// act is what is done with a gate: on which paths, in the order of their outcomes, a path goes on.
type act struct {
	do func(p path) ([]path, api.Errno)
}

// act returns what is done with a gate of a right circuit.
func (k kit) act(g api.Gate) (act, api.Errno) {
	if g.Kind == api.Measure {
		return act{gate{Gate: g}.measure}, api.OK
	}
	if g.Kind == api.Reset {
		x, e := k.operator(api.X)
		return act{gate{g, x}.reset}, e
	}
	operator, e := k.operator(g.Kind)
	return act{gate{g, operator}.apply}, e
}

// apply applies the gate, unless it is left out.
func (g gate) apply(p path) ([]path, api.Errno) {
	if g.If != 0 && bitOf(p.bits, g.If-1) == 0 {
		return []path{p}, api.OK
	}
	s, e := g.after(p.state)
	if e != api.OK {
		return nil, e
	}
	p.state = s
	return []path{p}, api.OK
}

// measure finds both outcomes, and puts them into the bit.
func (g gate) measure(p path) ([]path, api.Errno) {
	both := make([]path, 2)
	for outcome := range both {
		q := p.found(g.Wires[0], outcome)
		q.bits = withBit(q.bits, g.Bit, outcome)
		both[outcome] = q
	}
	return both, api.OK
}

// reset finds both outcomes, and makes the wire 0.
func (g gate) reset(p path) ([]path, api.Errno) {
	zero, one := p.found(g.Wires[0], 0), p.found(g.Wires[0], 1)
	s, e := g.after(one.state)
	if e != api.OK {
		return nil, e
	}
	one.state = s
	return []path{zero, one}, api.OK
}

// run is a right circuit at work, from a state.
type run struct {
	api.Circuit
	acts    []act
	start   state
	follows func(p path) bool // whether it goes on along a path
}

// prepared returns a run of a right circuit along all paths; it has no state yet.
func prepared(c api.Circuit) (run, api.Errno) {
	r := run{Circuit: c, follows: func(path) bool { return true }}
	made := kit{}
	for _, g := range r.Gates {
		a, e := made.act(g)
		if e != api.OK {
			return run{}, e
		}
		r.acts = append(r.acts, a)
	}
	return r, api.OK
}

// findings returns how many outcomes a right circuit has.
func findings(c api.Circuit) int {
	n := 0
	for _, g := range c.Gates {
		if g.Kind == api.Measure || g.Kind == api.Reset {
			n++
		}
	}
	return n
}

// begun returns a run of a circuit from a state, if they go together.
func begun(c api.Circuit, v []api.Num) (run, api.Errno) {
	if e := circ.Check(c); e != api.OK {
		return run{}, e
	}
	s, e := taken(v)
	switch {
	case e != api.OK:
		return run{}, e
	case s.wires() != c.Wires:
		return run{}, api.ErrClash
	case findings(c) > MaxOutcomes:
		return run{}, api.ErrMany
	}
	r, e := prepared(c)
	return r.from(s), e
}

// plain returns a run of a circuit that is plain and has an operator; it has no state yet.
func plain(c api.Circuit) (run, api.Errno) {
	is, e := circ.Plain(c)
	switch {
	case e != api.OK:
		return run{}, e
	case !is:
		return run{}, api.ErrClash
	case c.Wires > api.MaxState:
		return run{}, api.ErrRange
	}
	return prepared(c)
}

// from returns the run from another state.
func (r run) from(s state) run {
	r.start = s
	return r
}

// along returns the run along some outcomes alone.
func (r run) along(l []int) run {
	var wanted outcomes
	copy(wanted[:], l)
	r.follows = func(p path) bool { return p.outcomes == wanted.head(p.known) }
	return r
}

// branches yields the branches that are not dead, in the order of their outcomes, and ends with the first error.
func (r run) branches(yield func(path, api.Errno) bool) {
	var walk func(p path, acts []act) bool
	walk = func(p path, acts []act) bool {
		if p.state.dead() || !r.follows(p) {
			return true
		}
		if len(acts) == 0 {
			return yield(p, api.OK)
		}
		next, e := acts[0].do(p)
		if e != api.OK {
			yield(path{}, e)
			return false
		}
		for _, q := range next {
			if !walk(q, acts[1:]) {
				return false
			}
		}
		return true
	}
	walk(path{state: r.start}, r.acts)
}

// only returns the branch of a run that has one at most, or ErrNone.
func (r run) only() (path, api.Errno) {
	only, e := path{}, api.ErrNone
	for p, f := range r.branches {
		only, e = p, f
	}
	return only, e
}
