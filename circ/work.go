package circ

import (
	"iter"
	"slices"

	"spoondrift/api"
)

// working is a right circuit at work: its gates are values, and nobody else has the list of them.
type working struct {
	api.Circuit
	list []gate
}

// taken returns a circuit at work, if it is right.
func taken(c api.Circuit) (working, api.Errno) {
	if e := Check(c); e != api.OK {
		return working{}, e
	}
	w := working{c, make([]gate, len(c.Gates))}
	for i, g := range c.Gates {
		w.list[i] = read(g)
	}
	return w, api.OK
}

// bothTaken takes two circuits, one after the other.
func bothTaken(c, d api.Circuit) (working, working, api.Errno) {
	a, e := taken(c)
	if e != api.OK {
		return working{}, working{}, e
	}
	b, e := taken(d)
	if e != api.OK {
		return working{}, working{}, e
	}
	return a, b, api.OK
}

// with returns a circuit with the same wires and bits, and lists of gates, one behind the other.
func (w working) with(lists ...[]gate) api.Circuit {
	out := api.Circuit{Wires: w.Wires, Bits: w.Bits}
	for _, list := range lists {
		for _, g := range list {
			out.Gates = append(out.Gates, g.written())
		}
	}
	return out
}

func (w working) plain() bool {
	return all(w.list, func(g gate) bool { return g.kind != api.Measure && g.kind != api.Reset && g.when == 0 })
}

// inverted returns what undoes each gate of a plain circuit, from the last one to the first one.
func (w working) inverted() []gate {
	var list []gate
	for _, g := range slices.Backward(w.list) {
		g.kind = natures[g.kind].inverse
		list = append(list, g)
	}
	return list
}

// moved returns the gates on other wires.
func (w working) moved(to []int) []gate {
	var list []gate
	for _, g := range w.list {
		for i := range g.arity() {
			g.wires[i] = to[g.wires[i]]
		}
		list = append(list, g)
	}
	return list
}

func (w working) meet(i, j int) bool { return w.list[i].meets(w.list[j]) }

func (w working) commute(i, j int) bool { return w.list[i].commutes(w.list[j]) }

func (w working) undo(i, j int) bool { return w.list[i].undoes(w.list[j]) }

// bar reports whether two gates must keep their order.
func (w working) bar(i, j int) bool { return !w.commute(i, j) }

// pair asks something about two gates, if they are there.
func (w working) pair(i, j int, ask func(i, j int) bool) (bool, api.Errno) {
	if !below(i, len(w.list)) || !below(j, len(w.list)) {
		return false, api.ErrNot
	}
	return ask(i, j), api.OK
}

// order is what makes two gates neighbours, by their numbers.
type order struct {
	neighbours func(i, j int) bool
}

// before yields the numbers of the neighbours of gate j that come before it.
func (o order) before(j int) iter.Seq[int] {
	return func(yield func(int) bool) {
		for i := range j {
			if o.neighbours(i, j) && !yield(i) {
				return
			}
		}
	}
}

// free reports whether gate j has no neighbour before it.
func (o order) free(j int) bool {
	for range o.before(j) {
		return false
	}
	return true
}

// layering returns a function that is asked for the layer of each gate, one after the other.
func (o order) layering() func() int {
	var layers []int
	return func() int {
		layer := 0
		for i := range o.before(len(layers)) {
			layer = max(layer, layers[i]+1)
		}
		layers = append(layers, layer)
		return layer
	}
}

// layers returns the layer of each gate.
func (w working) layers() []int {
	next := order{w.meet}.layering()
	var layers []int
	for range w.list {
		layer := next()
		layers = append(layers, layer)
	}
	return layers
}

// tidied returns the gates in the order of Tidy.
func (w working) tidied() []gate {
	left := working{w.Circuit, slices.Clone(w.list)}
	var list []gate
	for range w.list {
		next := left.least()
		list = append(list, left.list[next])
		left.list = slices.Delete(left.list, next, next+1)
	}
	return list
}

// least returns the number of the first in the order of gates of those that commute with each gate before them.
func (w working) least() int {
	o := order{w.bar}
	least := 0
	for j := range len(w.list) {
		if w.list[j].less(w.list[least]) && o.free(j) {
			least = j
		}
	}
	return least
}

// cancelled returns the gates that are left of those that undo one another.
func (w working) cancelled() []gate {
	var list []gate
	undone := map[gate]int{} // how many gates of the list a settled gate undoes; those that nothing undoes are under no kind
	for _, g := range w.list {
		at := none
		if undone[g.settled()] > 0 {
			at = g.undoneIn(list)
		}
		if at == none {
			list = append(list, g)
			undone[g.undoing()]++
			continue
		}
		list = slices.Delete(list, at, at+1)
		undone[g.settled()]--
	}
	return list
}

// undoneIn returns the place of the last gate of a list that undoes g, or none if g does not commute with all behind it.
func (g gate) undoneIn(list []gate) int {
	at := none
search:
	for i, h := range slices.Backward(list) {
		switch {
		case g.undoes(h):
			at = i
			break search
		case !g.commutes(h):
			break search
		}
	}
	return at
}
