package rev

import (
	"iter"
	"slices"

	"spoondrift/api"
)

// wants has, at the number of each kind, how many Args it has.
var wants = [...]int{Var: 0, Not: 1, And: 2, Xor: 2, Or: 2, No: 0, Yes: 0}

// within yields an expression and all that is in it, each one before its Args. This may be without end, as an expression can have itself among its Args.
func within(e api.Bool) iter.Seq[api.Bool] {
	return func(yield func(api.Bool) bool) {
		var visit func(e api.Bool) bool
		visit = func(e api.Bool) bool {
			if !yield(e) {
				return false
			}
			for _, arg := range e.Args {
				if !visit(arg) {
					return false
				}
			}
			return true
		}
		visit(e)
	}
}

// vast reports whether the size of an expression is above MaxBool.
func vast(e api.Bool) bool {
	size := 0
	for range within(e) {
		size++
		if size > MaxBool {
			return true
		}
	}
	return false
}

// fault returns the error of an expression, whatever its Args are.
func fault(e api.Bool, vars int) api.Errno {
	switch {
	case e.Kind < Var || e.Kind > Yes:
		return api.ErrRange
	case len(e.Args) != wants[e.Kind] || e.Kind != Var && e.Var != 0:
		return api.ErrClash
	case e.Kind == Var && !below(e.Var, vars):
		return api.ErrNot
	}
	return api.OK
}

// value returns the value of a good expression, where the variables are the bits of x.
func value(e api.Bool, x int) bool {
	switch e.Kind {
	case Var:
		return bit(x, e.Var)
	case Not:
		return !value(e.Args[0], x)
	case And:
		return value(e.Args[0], x) && value(e.Args[1], x)
	case Xor:
		return value(e.Args[0], x) != value(e.Args[1], x)
	case Or:
		return value(e.Args[0], x) || value(e.Args[1], x)
	}
	return e.Kind == Yes
}

// compiler is at work on a circuit, which gets a wire as soon as a gate has it.
type compiler struct {
	circuit
}

// put puts gates behind those that are there.
func (c *compiler) put(gates ...gate) {
	for _, g := range gates {
		c.wires = max(c.wires, 1+slices.Max(g.wires[:g.arity()]))
		c.gates = append(c.gates, g)
	}
}

// add puts the gates there that add an expression to a wire, with the first free wire.
func (c *compiler) add(e api.Bool, wire, free int) {
	switch e.Kind {
	case Var:
		c.put(turning(wire, e.Var))
	case Not:
		c.add(e.Args[0], wire, free)
		c.put(turning(wire))
	case And:
		c.addBoth(e.Args[0], e.Args[1], wire, free)
	case Xor:
		c.add(e.Args[0], wire, free)
		c.add(e.Args[1], wire, free)
	case Or:
		c.addBoth(negated(e.Args[0]), negated(e.Args[1]), wire, free)
		c.put(turning(wire))
	case Yes:
		c.put(turning(wire))
	}
}

// addBoth adds And of two expressions to a wire.
func (c *compiler) addBoth(first, second api.Bool, wire, free int) {
	from := len(c.gates)
	placed := func(e api.Bool) int {
		if e.Kind == Var {
			return e.Var
		}
		own := free
		free++
		c.add(e, own, free)
		return own
	}
	one := placed(first)
	other := placed(second)
	before := slices.Clone(c.gates[from:])
	slices.Reverse(before)
	c.put(turning(wire, slices.Compact([]int{one, other})...))
	c.put(before...)
}

func negated(e api.Bool) api.Bool { return api.Bool{Kind: Not, Args: []api.Bool{e}} }
