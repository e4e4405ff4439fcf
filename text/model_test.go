package text_test

import (
	"fmt"
	"regexp"
	"slices"
	"strconv"
	"strings"

	"spoondrift/api"
	"spoondrift/circ"
	"spoondrift/text"
)

// The model cuts texts with regular expressions, and tells whether a text goes on with a token by trying all that could follow.

var (
	layoutForm  = regexp.MustCompile(`^([ \n]|#[^\n]*(\n|$))*`)
	tokenForm   = regexp.MustCompile(`^([a-z]+|[0-9]+|[:;])`)
	numberForm  = regexp.MustCompile(`^(0|[1-9][0-9]{0,2})$`)
	circuitForm = regexp.MustCompile(`^wn(bn)?;((fn:)?(1n|2nn|3nnn|mnn);)*$`)
)

// none is no index.
const none = -1

// cut is a token of the model, with the index at which it is cut wrong, or none; a byte that begins no token is one without a kind.
type cut struct {
	text.Token
	wrong int
}

// modelCut returns the tokens up to and with the first one that is cut wrong.
func modelCut(s string) []cut {
	var l []cut
	for at := 0; ; {
		at += len(layoutForm.FindString(s[at:]))
		if at == len(s) {
			return l
		}
		word := tokenForm.FindString(s[at:])
		x := cut{text.Token{At: at, Text: word}, none}
		switch {
		case word == "":
			x.wrong = at
		case word == ":" || word == ";":
			x.Kind = int(word[0])
		case word[0] >= 'a':
			x.Kind = text.Word
			if len(word) > 8 {
				x.wrong = at + 8
			}
		default:
			x.Kind = text.Number
			if word[0] == '0' && len(word) > 1 {
				x.wrong = at + 1
			} else if !numberForm.MatchString(word) {
				x.wrong = at + 3
			}
		}
		l = append(l, x)
		if x.wrong != none {
			return l
		}
		at += len(word)
	}
}

func modelTokens(s string) ([]text.Token, int, api.Errno) {
	if len(s) > 65536 {
		return nil, 0, api.ErrLong
	}
	var l []text.Token
	for _, x := range modelCut(s) {
		if x.wrong != none {
			return nil, x.wrong, api.ErrForm
		}
		l = append(l, x.Token)
	}
	return l, 0, api.OK
}

func modelKinds() []string {
	return []string{"", "x", "y", "z", "h", "s", "sd", "t", "td", "cx", "cz", "swap", "ccx", "measure", "reset"}
}

// letter is what the form of circuits has for a token.
func letter(x cut) string {
	switch x.Kind {
	case text.Number:
		return "n"
	case ':', ';':
		return x.Text
	}
	switch x.Text {
	case "wires", "bits":
		return x.Text[:1]
	case "if":
		return "f"
	case "measure":
		return "m"
	}
	if kind := slices.Index(modelKinds(), x.Text); kind > 0 {
		return strconv.Itoa(circ.Arity(kind))
	}
	return "?"
}

// goesOn reports whether a text begins with tokens of these letters.
func goesOn(letters string) bool {
	for _, rest := range []string{"", "wn;", "n;", ";", "n:1n;", ":1n;", "1n;", "nn;", "nnn;"} {
		if circuitForm.MatchString(letters + rest) {
			return true
		}
	}
	return false
}

// modelWrong returns the index at which a text is not that of a circuit, or none.
func modelWrong(s string) int {
	letters := ""
	for _, x := range modelCut(s) {
		letters += letter(x)
		switch {
		case !goesOn(letters):
			return x.At
		case x.wrong != none:
			return x.wrong
		}
	}
	if !circuitForm.MatchString(letters) {
		return len(s)
	}
	return none
}

// pieces are the tokens of a right text, up to and with each ; in turn.
func pieces(s string) [][]cut {
	var l [][]cut
	begun := false
	for _, x := range modelCut(s) {
		if !begun {
			l = append(l, nil)
		}
		l[len(l)-1] = append(l[len(l)-1], x)
		begun = x.Kind != ';'
	}
	return l
}

// numbers are the numbers of some tokens.
func numbers(l []cut) []int {
	var out []int
	for _, x := range l {
		if x.Kind == text.Number {
			n, _ := strconv.Atoi(x.Text)
			out = append(out, n)
		}
	}
	return out
}

// modelParse returns the circuit of a text, and the bytes of its gates, too.
func modelParse(s string) (api.Circuit, [][2]int, int, api.Errno) {
	if len(s) > 65536 {
		return api.Circuit{}, nil, 0, api.ErrLong
	}
	if at := modelWrong(s); at != none {
		return api.Circuit{}, nil, at, api.ErrForm
	}
	var c api.Circuit
	var bytes [][2]int
	for i, l := range pieces(s) {
		if i == 0 {
			n := append(numbers(l), 0)
			c.Wires, c.Bits = n[0], n[1]
			continue
		}
		bytes = append(bytes, [2]int{l[0].At, l[len(l)-1].At + 1})
		var g api.Gate
		if l[0].Text == "if" {
			g.If = numbers(l)[0] + 1
			l = l[3:]
		}
		g.Kind = slices.Index(modelKinds(), l[0].Text)
		g.Wires = numbers(l)
		if g.Kind == api.Measure {
			g.Wires, g.Bit = g.Wires[:1], g.Wires[1]
		}
		c.Gates = append(c.Gates, g)
	}
	if e := circ.Check(c); e != api.OK {
		return api.Circuit{}, nil, len(s), e
	}
	return c, bytes, 0, api.OK
}

// modelLine prints a gate, whether it is right or not.
func modelLine(g api.Gate) string {
	s := modelKinds()[g.Kind] + " " + strings.Trim(fmt.Sprint(g.Wires), "[]")
	if g.Kind == api.Measure {
		s = fmt.Sprintf("%s %d", s, g.Bit)
	}
	if g.If != 0 {
		s = fmt.Sprintf("if %d: %s", g.If-1, s)
	}
	return s + ";"
}

func modelPrint(c api.Circuit) string {
	s := fmt.Sprintf("wires %d bits %d;\n", c.Wires, c.Bits)
	if c.Bits == 0 {
		s = fmt.Sprintf("wires %d;\n", c.Wires)
	}
	for _, g := range c.Gates {
		s += modelLine(g) + "\n"
	}
	return s
}

// draws are numbers that look drawn, the same ones in each run.
type draws uint64

func (d *draws) below(n int) int {
	*d = *d*6364136223846793005 + 1442695040888963407
	return int(uint64(*d)>>33) % n
}

func (d *draws) of(l ...string) string { return l[d.below(len(l))] }

// gate returns a right gate of a circuit of 3 wires at least.
func (d *draws) gate(wires, bits int) api.Gate {
	g := api.Gate{Kind: 1 + d.below(14)}
	if g.Kind == api.Measure && bits == 0 {
		g.Kind = api.Reset
	}
	for len(g.Wires) < circ.Arity(g.Kind) {
		if wire := d.below(wires); !slices.Contains(g.Wires, wire) {
			g.Wires = append(g.Wires, wire)
		}
	}
	switch {
	case g.Kind == api.Measure:
		g.Bit = d.below(bits)
	case g.Kind != api.Reset && d.below(2) == 0:
		g.If = d.below(bits + 1)
	}
	return g
}

func (d *draws) circuit(gates int) api.Circuit {
	c := api.Circuit{Wires: 3 + d.below(10), Bits: d.below(9)}
	for range gates {
		c.Gates = append(c.Gates, d.gate(c.Wires, c.Bits))
	}
	return c
}

// layout returns some layout, which may be none.
func (d *draws) layout() string {
	s := ""
	for range d.below(3) {
		s += d.of(" ", "\n", "  \n", "#\n", "# x 0; wires\n", "#:;09AZ~\t\r\x00\xff\xc3\n", "# ä ∞ #\n")
	}
	return s
}

// laid returns the text of a circuit with layout anywhere between its tokens, and at both ends.
func (d *draws) laid(c api.Circuit) string {
	out := d.layout()
	before := 0
	for _, x := range modelCut(modelPrint(c)) {
		if x.Kind == before && before <= text.Number {
			out += d.of(" ", "\n", "#\n")
		}
		out += x.Text + d.layout()
		before = x.Kind
	}
	return out + d.of("", "", "# the end", "#")
}

// spoiled returns a text with a few changes.
func (d *draws) spoiled(s string) string {
	for range 1 + d.below(3) {
		at := d.below(len(s) + 1)
		behind := min(len(s), at+d.below(3))
		s = s[:at] + d.of("", " ", ";", ":", "0", "1", "12", "00", "1000", "x", "cx", "if", "bits", "wires", "wires 3;", "measure", "measurem", "abcdefghi", "#", "\n", "!", "X", "\t", "ä", "\x80", "if 0:", "x 0;") + s[behind:]
	}
	return s
}

// renumbered returns a right text with other numbers in place of some.
func (d *draws) renumbered(s string) string {
	out, at := "", 0
	for _, x := range modelCut(s) {
		if x.Kind == text.Number && d.below(3) == 0 {
			out += s[at:x.At] + strconv.Itoa(d.below(14))
			at = x.At + len(x.Text)
		}
	}
	return out + s[at:]
}
