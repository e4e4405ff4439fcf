package text

import (
	"strconv"

	"spoondrift/api"
	"spoondrift/circ"
)

// state takes the token that comes next, and reports whether a text goes on with it.
type state func(Token) bool

// span is where the bytes of a gate begin, and the index behind them.
type span struct{ from, to int }

// reader reads a circuit, token by token. After a token with which no text goes on it is used no more.
type reader struct {
	source
	api.Circuit
	kinds map[string]int
	spans []span
	next  state
	gate  api.Gate // the one that is being read
	from  int
}

// read returns a reader that has read a right text; with an error, the index at which the text is wrong.
func read(s string) (*reader, int, api.Errno) {
	if len(s) > api.MaxBytes {
		return nil, 0, api.ErrLong
	}
	r := newReader(s)
	if wrong := r.readAll(); wrong != none {
		return nil, wrong, api.ErrForm
	}
	if e := circ.Check(r.Circuit); e != api.OK {
		return nil, len(s), e
	}
	return r, 0, api.OK
}

func newReader(s string) *reader {
	r := &reader{source: source{s}, kinds: kindsByWord()}
	ended := r.exactly(';', ";", r.begin)
	bits := r.exactly(Word, "bits", r.number(func(n int) { r.Bits = n }, ended))
	bitsOrEnded := func(t Token) bool { return bits(t) || ended(t) }
	r.next = r.exactly(Word, "wires", r.number(func(n int) { r.Wires = n }, bitsOrEnded))
	return r
}

func kindsByWord() map[string]int {
	kinds := map[string]int{}
	for kind := api.X; kind <= api.Reset; kind++ {
		kinds[words[kind]] = kind
	}
	return kinds
}

// readAll reads the text, and returns the index at which it is not the text of a circuit, or none.
func (r *reader) readAll() int {
	at := len(r.text)
reading:
	for t, wrong := range r.tokens {
		switch {
		case !r.next(t):
			at = t.At
			break reading
		case wrong != none:
			at = wrong
			break reading
		case t.Kind == ';': // a text may end here, and nowhere else
			at = none
		default:
			at = len(r.text)
		}
	}
	return at
}

// exactly returns the state in which just one token may come.
func (r *reader) exactly(kind int, text string, then state) state {
	return func(t Token) bool {
		r.next = then
		return t == Token{t.At, kind, text}
	}
}

// number returns the state in which a number must come.
func (r *reader) number(put func(int), then state) state {
	return func(t Token) bool {
		if t.Kind != Number {
			return false
		}
		n, _ := strconv.Atoi(t.Text)
		put(n)
		r.next = then
		return true
	}
}

// begin is the state in front of a gate.
func (r *reader) begin(t Token) bool {
	r.gate, r.from = api.Gate{}, t.At
	steered := r.exactly(Word, "if", r.number(func(n int) { r.gate.If = n + 1 }, r.exactly(':', ":", r.kind)))
	return steered(t) || r.kind(t)
}

// kind is the state in front of the word for a kind.
func (r *reader) kind(t Token) bool {
	kind, ok := r.kinds[t.Text]
	r.gate.Kind = kind
	r.next = r.end
	if kind == api.Measure {
		r.next = r.number(func(n int) { r.gate.Bit = n }, r.next)
	}
	for range circ.Arity(kind) {
		r.next = r.number(func(n int) { r.gate.Wires = append(r.gate.Wires, n) }, r.next)
	}
	return ok
}

// end is the state behind the numbers of a gate.
func (r *reader) end(t Token) bool {
	r.Gates = append(r.Gates, r.gate)
	r.spans = append(r.spans, span{r.from, t.At + 1})
	r.next = r.begin
	return t.Kind == ';'
}
