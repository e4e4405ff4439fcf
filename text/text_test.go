package text_test

import (
	"math"
	"slices"
	"strings"
	"testing"

	"spoondrift/api"
	"spoondrift/circ"
	"spoondrift/text"
)

// on makes a gate, when one with an If, look a Measure.
func on(kind int, wires ...int) api.Gate { return api.Gate{Kind: kind, Wires: wires} }

func when(n, kind int, wires ...int) api.Gate { return api.Gate{Kind: kind, Wires: wires, If: n} }

func look(wire, bit int) api.Gate { return api.Gate{Kind: api.Measure, Wires: []int{wire}, Bit: bit} }

// many is the text of so many gates.
func many(n int) string { return "wires 1;" + strings.Repeat("x 0;", n) }

// padded is a text with blanks behind it, up to so many bytes.
func padded(s string, length int) string { return s + strings.Repeat(" ", length-len(s)) }

// wrong is a text that has an error, and its index.
type wrong struct {
	s  string
	at int
	e  api.Errno
}

// calls are all functions that read a circuit, with other arguments that would be an error, too; they tell whether the other results are zero, and the index, or 0 if they give none.
func calls() map[string]func(s string) (bool, int, api.Errno) {
	return map[string]func(s string) (bool, int, api.Errno){
		"Parse": func(s string) (bool, int, api.Errno) {
			c, at, e := text.Parse(s)
			return c.Wires == 0 && c.Bits == 0 && len(c.Gates) == 0, at, e
		},
		"Tidy":   func(s string) (bool, int, api.Errno) { u, at, e := text.Tidy(s); return u == "", at, e },
		"Where":  func(s string) (bool, int, api.Errno) { a, b, e := text.Where(s, -1); return a == 0 && b == 0, 0, e },
		"Put":    func(s string) (bool, int, api.Errno) { u, e := text.Put(s, 1000, "!"); return u == "", 0, e },
		"Insert": func(s string) (bool, int, api.Errno) { u, e := text.Insert(s, -1, "!"); return u == "", 0, e },
	}
}

// checkWrong asks all functions that read a circuit about a text that has an error.
func checkWrong(t *testing.T, x wrong) {
	t.Helper()
	for name, do := range calls() {
		at := x.at
		if name != "Parse" && name != "Tidy" {
			at = 0
		}
		if zero, index, e := do(x.s); !zero || index != at || e != x.e {
			t.Errorf("%s of %.40q: %v %d %d, wanted %d %d", name, x.s, zero, index, e, at, x.e)
		}
	}
}

// checkAsModel compares Tokens, Parse and Tidy of a text with the model, and returns the error of Parse.
func checkAsModel(t *testing.T, s string) api.Errno {
	t.Helper()
	l, at, e := text.Tokens(s)
	tokens, index, want := modelTokens(s)
	if !slices.Equal(l, tokens) || at != index || e != want {
		t.Fatalf("%q: %v %d %d, wanted %v %d %d", s, l, at, e, tokens, index, want)
	}
	c, at, e := text.Parse(s)
	d, _, index, want := modelParse(s)
	if !circ.Same(c, d) || at != index || e != want {
		t.Fatalf("%q: %v %d %d, wanted %v %d %d", s, c, at, e, d, index, want)
	}
	tidy := ""
	if want == api.OK {
		tidy = modelPrint(d)
	}
	if u, at, e := text.Tidy(s); u != tidy || at != index || e != want {
		t.Fatalf("%q: %q %d %d, wanted %q %d %d", s, u, at, e, tidy, index, want)
	}
	return want
}

// P5.1

func TestTokens(t *testing.T) {
	for i, x := range []struct {
		s string
		l []text.Token
	}{
		{"", nil}, {" \n# a\n \n#\n##", nil}, {"#", nil},
		{"abcdefgh", []text.Token{{At: 0, Kind: 1, Text: "abcdefgh"}}}, {"z", []text.Token{{At: 0, Kind: 1, Text: "z"}}},
		{"0", []text.Token{{At: 0, Kind: 2, Text: "0"}}}, {"\n999 ", []text.Token{{At: 1, Kind: 2, Text: "999"}}}, {"100", []text.Token{{At: 0, Kind: 2, Text: "100"}}},
		{"0 0 a a", []text.Token{{At: 0, Kind: 2, Text: "0"}, {At: 2, Kind: 2, Text: "0"}, {At: 4, Kind: 1, Text: "a"}, {At: 6, Kind: 1, Text: "a"}}},
		{"::;;", []text.Token{{At: 0, Kind: ':', Text: ":"}, {At: 1, Kind: ':', Text: ":"}, {At: 2, Kind: ';', Text: ";"}, {At: 3, Kind: ';', Text: ";"}}},
		{"a0b12:c;", []text.Token{{At: 0, Kind: 1, Text: "a"}, {At: 1, Kind: 2, Text: "0"}, {At: 2, Kind: 1, Text: "b"}, {At: 3, Kind: 2, Text: "12"}, {At: 5, Kind: ':', Text: ":"}, {At: 6, Kind: 1, Text: "c"}, {At: 7, Kind: ';', Text: ";"}}},
		{"a#b\nc#d", []text.Token{{At: 0, Kind: 1, Text: "a"}, {At: 4, Kind: 1, Text: "c"}}}, {"1#2\n3", []text.Token{{At: 0, Kind: 2, Text: "1"}, {At: 4, Kind: 2, Text: "3"}}},
		{"#ä∞\x80\xff\x00\t\r !X\nx", []text.Token{{At: 15, Kind: 1, Text: "x"}}}, {"#\xe2\nx", []text.Token{{At: 3, Kind: 1, Text: "x"}}},
	} {
		if l, at, e := text.Tokens(x.s); !slices.Equal(l, x.l) || at != 0 || e != api.OK {
			t.Error(i, l, at, e)
		}
	}
	if text.Word != 1 || text.Number != 2 {
		t.Error(text.Word, text.Number)
	}
}

func TestCutWrong(t *testing.T) {
	for i, x := range []struct {
		s  string
		at int
	}{
		{"abcdefghi", 8}, {"abcdefghijklmnop", 8}, {" x abcdefghi", 11}, {"measures measuresx", 17},
		{"1000", 3}, {"123456", 3}, {"x 1 99999", 7}, {"00", 1}, {"01", 1}, {"0123", 1}, {"x00", 2}, {"12 012", 4},
		{"!", 0}, {"x!", 1}, {"x y;!!", 4}, {"xX", 1}, {"1,2", 1}, {"1.5", 1}, {"-1", 0}, {"x\t", 1}, {"x\r\n", 1}, {"x\x00", 1}, {"xä", 1}, {"1∞", 1}, {"\xff", 0}, {"# a\n!", 4}, {"x_y", 1},
		{"ĺ", 0}, {"x ķ", 2}, {"š", 0}, {"İ", 0}, // runes whose last eight bits are those of : and ; and a and 0
		{"! abcdefghi", 0}, {"abcdefghi !", 8}, {"00 !", 1},
	} {
		if l, at, e := text.Tokens(x.s); len(l) != 0 || at != x.at || e != api.ErrForm {
			t.Error(i, l, at, e)
		}
	}
}

func TestEachByte(t *testing.T) {
	for b := range 256 {
		c := byte(b)
		s := string([]byte{c})
		_, index, e := text.Tokens("x " + s)
		kind := 0
		switch {
		case c >= 'a' && c <= 'z':
			kind = text.Word
		case c >= '0' && c <= '9':
			kind = text.Number
		case c == ':' || c == ';':
			kind = int(c)
		case c == ' ' || c == '\n' || c == '#':
			kind = none
		}
		if kind == 0 && (index != 2 || e != api.ErrForm) || kind != 0 && e != api.OK {
			t.Error(b, index, e)
		}
		l, _, _ := text.Tokens(s)
		if kind > 0 != slices.Equal(l, []text.Token{{At: 0, Kind: kind, Text: s}}) {
			t.Error(b, l)
		}
		if l, _, e := text.Tokens("#" + s + "x\ny"); e != api.OK || len(l) == 0 || l[len(l)-1].Text != "y" || len(l) > 1 != (c == '\n') {
			t.Error(b, l, e)
		}
	}
}

func TestLongTexts(t *testing.T) {
	for _, s := range []string{"", "wires 1;", "wires 1; x 9;", "!"} {
		long := padded(s, api.MaxBytes+1)
		if l, at, e := text.Tokens(long); len(l) != 0 || at != 0 || e != api.ErrLong {
			t.Error(l, at, e)
		}
		checkWrong(t, wrong{long, 0, api.ErrLong})
	}
	if l, at, e := text.Tokens(padded("x", api.MaxBytes)); len(l) != 1 || at != 0 || e != api.OK {
		t.Error(l, at, e)
	}
	if l, at, e := text.Tokens(strings.Repeat(";", api.MaxBytes)); len(l) != api.MaxBytes || at != 0 || e != api.OK {
		t.Error(len(l), at, e)
	}
	if _, at, e := text.Tokens(strings.Repeat(" ", api.MaxBytes-1) + "!"); at != api.MaxBytes-1 || e != api.ErrForm {
		t.Error(at, e)
	}
	checkWrong(t, wrong{padded("", api.MaxBytes), api.MaxBytes, api.ErrForm})
	checkWrong(t, wrong{"wires 1;" + strings.Repeat("x0;", 21842), 8 + 3*21842, api.ErrMany})
	if c, at, e := text.Parse(padded("wires 1; x 0;", api.MaxBytes)); !circ.Same(c, api.Circuit{Wires: 1, Gates: []api.Gate{on(api.X, 0)}}) || at != 0 || e != api.OK {
		t.Error(c, at, e)
	}
}

func TestParse(t *testing.T) {
	all := "wires 12 bits 8; x 0; y 1; z 2; h 3; s 4; sd 5; t 6; td 7; cx 8 9; cz 10 11; swap 1 0; ccx 2 4 3; measure 11 7; reset 6; if 7: ccx 0 2 1; if 0: td 9;"
	gates := []api.Gate{on(api.X, 0), on(api.Y, 1), on(api.Z, 2), on(api.H, 3), on(api.S, 4), on(api.Sd, 5), on(api.T, 6), on(api.Td, 7), on(api.CX, 8, 9), on(api.CZ, 10, 11), on(api.Swap, 1, 0), on(api.CCX, 2, 4, 3), look(11, 7), on(api.Reset, 6), when(8, api.CCX, 0, 2, 1), when(1, api.Td, 9)}
	for i, x := range []struct {
		s string
		c api.Circuit
	}{
		{"wires 2 bits 1; h 0; cx 0 1; measure 1 0; if 0: x 0;", api.Circuit{Wires: 2, Bits: 1, Gates: []api.Gate{on(api.H, 0), on(api.CX, 0, 1), look(1, 0), when(1, api.X, 0)}}},
		{all, api.Circuit{Wires: 12, Bits: 8, Gates: gates}},
		{"wires 1;", api.Circuit{Wires: 1}}, {"wires 1 bits 0;", api.Circuit{Wires: 1}}, {"wires 12 bits 8;", api.Circuit{Wires: 12, Bits: 8}},
		{"wires2bits1;x0;measure0 0;if0:x0;", api.Circuit{Wires: 2, Bits: 1, Gates: []api.Gate{on(api.X, 0), look(0, 0), when(1, api.X, 0)}}},
		{"#\n\n wires# 9\n2 \n;#;\ncx #\n0#\n1\n ;  #", api.Circuit{Wires: 2, Gates: []api.Gate{on(api.CX, 0, 1)}}},
		{many(120), api.Circuit{Wires: 1, Gates: slices.Repeat([]api.Gate{on(api.X, 0)}, 120)}},
	} {
		if c, at, e := text.Parse(x.s); !circ.Same(c, x.c) || at != 0 || e != api.OK {
			t.Error(i, c, at, e)
		}
	}
}

func TestNoTextOfACircuit(t *testing.T) {
	for _, x := range []wrong{
		// no text goes on with the token
		{"!", 0, api.ErrForm}, {"x 0;", 0, api.ErrForm}, {"bits 1;", 0, api.ErrForm}, {"wire 2;", 0, api.ErrForm}, {"wiress 2;", 0, api.ErrForm}, {"2;", 0, api.ErrForm}, {";", 0, api.ErrForm}, {"abcdefghi", 0, api.ErrForm}, {"00", 0, api.ErrForm}, {" 1000", 1, api.ErrForm},
		{"wires ;", 6, api.ErrForm}, {"wires two", 6, api.ErrForm}, {"wires:2", 5, api.ErrForm}, {"wires wires", 6, api.ErrForm}, {"wires abcdefghi", 6, api.ErrForm},
		{"wires 2:", 7, api.ErrForm}, {"wires 2 3;", 8, api.ErrForm}, {"wires 2 x", 8, api.ErrForm}, {"wires 2 if", 8, api.ErrForm}, {"wires 2 wires", 8, api.ErrForm}, {"wires 2 bit 1;", 8, api.ErrForm}, {"wires 2 00", 8, api.ErrForm}, {"wires 2 1000", 8, api.ErrForm},
		{"wires 2 bits;", 12, api.ErrForm}, {"wires 2 bits x", 13, api.ErrForm}, {"wires 2 bits 1 1;", 15, api.ErrForm}, {"wires 2 bits 1 bits 1;", 15, api.ErrForm}, {"wires 2 bits 1:", 14, api.ErrForm},
		{"wires 2;;", 8, api.ErrForm}, {"wires 2; 0", 9, api.ErrForm}, {"wires 2; :", 9, api.ErrForm}, {"wires 2; wires 2;", 9, api.ErrForm}, {"wires 2; bits 1;", 9, api.ErrForm}, {"wires 2; hh 0;", 9, api.ErrForm}, {"wires 2; sdd 0;", 9, api.ErrForm}, {"wires 2; measures 0 0;", 9, api.ErrForm}, {"wires 2; measuresx 0;", 9, api.ErrForm}, {"wires 2; swapswaps 0;", 9, api.ErrForm},
		{"wires 2; x;", 10, api.ErrForm}, {"wires 2; x:", 10, api.ErrForm}, {"wires 2; x x", 11, api.ErrForm}, {"wires 2; x if", 11, api.ErrForm}, {"wires 2; x 0 1;", 13, api.ErrForm}, {"wires 2; x 0 00;", 13, api.ErrForm}, {"wires 2; x 0:", 12, api.ErrForm}, {"wires 2; x 0 y", 13, api.ErrForm},
		{"wires 2; cx 0;", 13, api.ErrForm}, {"wires 2; cx 0 1 2;", 16, api.ErrForm}, {"wires 2; cz 0;", 13, api.ErrForm}, {"wires 2; swap 0;", 15, api.ErrForm}, {"wires 3; ccx 0 1;", 16, api.ErrForm}, {"wires 3; ccx 0 1 2 0;", 19, api.ErrForm}, {"wires 2; measure 0;", 18, api.ErrForm}, {"wires 2; measure 0 0 0;", 21, api.ErrForm}, {"wires 2; reset 0 0;", 17, api.ErrForm},
		{"wires 2; if x", 12, api.ErrForm}, {"wires 2; if: x 0;", 11, api.ErrForm}, {"wires 2; if;", 11, api.ErrForm}, {"wires 2; if 0 x 0;", 14, api.ErrForm}, {"wires 2; if 0 0", 14, api.ErrForm}, {"wires 2; if 0;", 13, api.ErrForm}, {"wires 2; if 0: if 0: x 0;", 15, api.ErrForm}, {"wires 2; if 0: ;", 15, api.ErrForm}, {"wires 2; if 0: 0", 15, api.ErrForm}, {"wires 2; if 0:: x 0;", 14, api.ErrForm}, {"wires 2; if 0: wires", 15, api.ErrForm}, {"wires 2; if 0: abcdefghi", 15, api.ErrForm},
		// a text goes on with the token, but it is cut wrong
		{"wires 02;", 7, api.ErrForm}, {"wires 00;", 7, api.ErrForm}, {"wires 1000;", 9, api.ErrForm}, {"wires 2 bits 01;", 14, api.ErrForm}, {"wires 2 bits 1000;", 16, api.ErrForm}, {"wires 2; x 00;", 12, api.ErrForm}, {"wires 2; cx 0 1234;", 17, api.ErrForm}, {"wires 2; measure 0 00;", 20, api.ErrForm}, {"wires 2; if 00: x 0;", 13, api.ErrForm}, {"wires 2; if 1000: x 0;", 15, api.ErrForm},
		// a byte that cannot be there, before the token that would be wrong
		{"wires!2;", 5, api.ErrForm}, {"wires 2!;", 7, api.ErrForm}, {"wires 2;!", 8, api.ErrForm}, {"wires 2; h 0; !", 14, api.ErrForm}, {"wires 2; h!", 10, api.ErrForm}, {"wires 2; H 0;", 9, api.ErrForm}, {"wires 2; h\t0;", 10, api.ErrForm}, {"wires 2;\r\n", 8, api.ErrForm}, {"wires 2; ä", 9, api.ErrForm}, {"wires 2; hä", 10, api.ErrForm}, {"wires -2;", 6, api.ErrForm},
		// or after it
		{"wires x !", 6, api.ErrForm}, {"wires 2; hh!", 9, api.ErrForm}, {"wires 2; hh abcdefghi", 9, api.ErrForm}, {"wires 2; x 0 1!", 13, api.ErrForm}, {"wires 9; x 9; 00", 14, api.ErrForm},
		// more tokens would have to come
		{"", 0, api.ErrForm}, {" \n# x", 5, api.ErrForm}, {"wires", 5, api.ErrForm}, {"wires 2", 7, api.ErrForm}, {"wires 2 # ;", 11, api.ErrForm}, {"wires 2 bits", 12, api.ErrForm}, {"wires 2 bits 1 ", 15, api.ErrForm}, {"wires 2; if", 11, api.ErrForm}, {"wires 2; if 0", 13, api.ErrForm}, {"wires 2; if 0:\n", 15, api.ErrForm}, {"wires 2; if 0: x", 16, api.ErrForm}, {"wires 2; x", 10, api.ErrForm}, {"wires 2; x 0", 12, api.ErrForm}, {"wires 2;h 0;cx 0", 16, api.ErrForm}, {"wires 2;h 0;cx 0 1", 18, api.ErrForm}, {"wires 2; ccx 0 1 2 #", 20, api.ErrForm}, {"wires 2; measure 0 0", 20, api.ErrForm},
	} {
		checkWrong(t, x)
		if at := modelWrong(x.s); at != x.at {
			t.Errorf("%q: %d", x.s, at)
		}
	}
}

func TestTextsOfNoRightCircuit(t *testing.T) {
	for _, x := range []wrong{
		{"wires 0;", 8, api.ErrRange}, {"wires 13;", 9, api.ErrRange}, {"wires 999;", 10, api.ErrRange}, {"wires 1 bits 9; ", 16, api.ErrRange}, {"wires 0; x 0; # so", 18, api.ErrRange}, {"wires 13; x 99;" + many(121)[8:], 499, api.ErrRange},
		{many(121), 492, api.ErrMany}, {many(121) + "x 9;\n", 497, api.ErrMany},
		{"wires 1; x 1;", 13, api.ErrNot}, {"wires 1; cx 0 1;", 16, api.ErrNot}, {"wires 1; cx 1 1;", 16, api.ErrNot}, {"wires 2; cx 1 1;", 16, api.ErrTwice}, {"wires 3; ccx 0 1 0;", 19, api.ErrTwice}, {"wires 2; cx 1 1; x 2;", 21, api.ErrTwice},
		{"wires 1; measure 0 0;", 21, api.ErrNot}, {"wires 1 bits 1; measure 0 1;", 28, api.ErrNot}, {"wires 1 bits 8; measure 0 999;", 30, api.ErrNot}, {"wires 1; if 0: x 0;", 19, api.ErrNot}, {"wires 1 bits 8; if 8: x 0;", 26, api.ErrNot}, {"wires 1 bits 8; if 999: x 0;", 28, api.ErrNot},
		{"wires 1 bits 1; if 0: measure 0 0;", 34, api.ErrClash}, {"wires 1 bits 1; if 0: reset 0;\n", 31, api.ErrClash}, {"wires 1 bits 1; if 1: reset 0;", 30, api.ErrNot},
	} {
		checkWrong(t, x)
		// what is no text of a circuit comes first
		checkWrong(t, wrong{x.s + "\n;", strings.LastIndexByte(x.s+"\n;", ';'), api.ErrForm})
	}
}

// TestShortTexts goes through all short texts behind beginnings of texts.
func TestShortTexts(t *testing.T) {
	alphabet := "x01;: \n#!if"
	var grow func(s string, more int)
	grow = func(s string, more int) {
		checkAsModel(t, s)
		if more > 0 {
			for i := range alphabet {
				grow(s+alphabet[i:i+1], more-1)
			}
		}
	}
	for _, s := range []string{"", "wires", "wires 2", "wires 2 bits 1", "wires 2 bits 1;", "wires 2 bits 1; x", "wires 2 bits 1; if 0"} {
		grow(s, 3)
	}
}

// TestRowsOfTokens goes through all rows of tokens, up to and with the first one with which no text goes on.
func TestRowsOfTokens(t *testing.T) {
	tokens := []string{"wires", "bits", "if", "x", "cx", "ccx", "measure", "reset", "abcdefghi", "0", "2", "00", "1000", ":", ";", "!"}
	wholes := 0
	var grow func(s string, more int)
	grow = func(s string, more int) {
		if e := checkAsModel(t, s); e != api.ErrForm {
			wholes++
		}
		if _, at, e := text.Parse(s); more == 0 || e == api.ErrForm && at < len(s) {
			return
		}
		for _, token := range tokens {
			grow(s+" "+token, more-1)
		}
	}
	grow("", 11)
	if wholes < 500 {
		t.Error(wholes)
	}
}

func TestParseAsModel(t *testing.T) {
	d := draws(1)
	errors := map[api.Errno]int{}
	for range 20000 {
		s := d.laid(d.circuit(d.below(5)))
		switch d.below(3) {
		case 0:
			s = d.spoiled(s)
		case 1:
			s = d.renumbered(s)
		}
		errors[checkAsModel(t, s)]++
	}
	for _, e := range []api.Errno{api.OK, api.ErrForm, api.ErrRange, api.ErrNot, api.ErrTwice} {
		if errors[e] < 100 {
			t.Error(errors)
		}
	}
}

// P5.2

func TestPrint(t *testing.T) {
	for i, x := range []struct {
		c api.Circuit
		s string
	}{
		{api.Circuit{Wires: 3, Bits: 2}, "wires 3 bits 2;\n"}, {api.Circuit{Wires: 3}, "wires 3;\n"}, {api.Circuit{Wires: 12, Bits: 8, Gates: []api.Gate{}}, "wires 12 bits 8;\n"},
		{api.Circuit{Wires: 2, Bits: 1, Gates: []api.Gate{on(api.H, 0), on(api.CX, 0, 1), look(1, 0), when(1, api.X, 0)}}, "wires 2 bits 1;\nh 0;\ncx 0 1;\nmeasure 1 0;\nif 0: x 0;\n"},
		{api.Circuit{Wires: 12, Bits: 8, Gates: []api.Gate{on(api.CCX, 11, 0, 10), look(10, 7), when(8, api.Swap, 9, 3), on(api.Reset, 5)}}, "wires 12 bits 8;\nccx 11 0 10;\nmeasure 10 7;\nif 7: swap 9 3;\nreset 5;\n"},
	} {
		if s, e := text.Print(x.c); s != x.s || e != api.OK {
			t.Error(i, s, e)
		}
	}
}

func TestErrorsOfPrint(t *testing.T) {
	of := func(l ...api.Gate) api.Circuit { return api.Circuit{Wires: 3, Bits: 2, Gates: l} }
	for i, x := range []struct {
		c api.Circuit
		e api.Errno
	}{
		{api.Circuit{}, api.ErrRange}, {api.Circuit{Wires: 13}, api.ErrRange}, {api.Circuit{Wires: 1, Bits: 9}, api.ErrRange}, {api.Circuit{Wires: 1, Bits: -1}, api.ErrRange}, {of(make([]api.Gate, 121)...), api.ErrMany},
		{of(on(0)), api.ErrRange}, {of(on(15, 0)), api.ErrRange}, {of(on(api.CX, 0)), api.ErrMany}, {of(on(api.H, 3)), api.ErrNot}, {of(on(api.CZ, 1, 1)), api.ErrTwice}, {of(look(0, 2)), api.ErrNot}, {of(when(3, api.X, 0)), api.ErrNot}, {of(when(1, api.Reset, 0)), api.ErrClash}, {of(api.Gate{Kind: api.X, Wires: []int{0}, Bit: 1}), api.ErrClash},
	} {
		if s, e := text.Print(x.c); s != "" || e != x.e {
			t.Error(i, s, e)
		}
	}
}

func TestShow(t *testing.T) {
	for i, x := range []struct {
		g api.Gate
		s string
	}{
		{on(api.X, 0), "x 0;"}, {on(api.Y, 1), "y 1;"}, {on(api.Z, 2), "z 2;"}, {on(api.H, 3), "h 3;"}, {on(api.S, 4), "s 4;"}, {on(api.Sd, 5), "sd 5;"}, {on(api.T, 6), "t 6;"}, {on(api.Td, 7), "td 7;"}, {on(api.CX, 1, 0), "cx 1 0;"}, {on(api.CZ, 10, 100), "cz 10 100;"}, {on(api.Swap, 0, 1), "swap 0 1;"}, {on(api.CCX, 2, 0, 1), "ccx 2 0 1;"}, {look(3, 1), "measure 3 1;"}, {on(api.Reset, 8), "reset 8;"},
		{look(999, 999), "measure 999 999;"}, {look(0, 0), "measure 0 0;"}, {when(1, api.T, 0), "if 0: t 0;"}, {when(1000, api.CCX, 999, 0, 999), "if 999: ccx 999 0 999;"}, {on(api.Swap, 4, 4), "swap 4 4;"},
	} {
		if s, e := text.Show(x.g); s != x.s || e != api.OK {
			t.Error(i, s, e)
		}
	}
}

func TestErrorsOfShow(t *testing.T) {
	low, high := math.MinInt, math.MaxInt
	for i, x := range []struct {
		g api.Gate
		e api.Errno
	}{
		{api.Gate{}, api.ErrRange}, {on(15, 0), api.ErrRange}, {on(-1, 0), api.ErrRange}, {on(low, 0), api.ErrRange}, {on(high, 0), api.ErrRange}, {on(15, 0, 0, 0, 0), api.ErrRange},
		{on(api.H), api.ErrMany}, {on(api.H, 0, 1), api.ErrMany}, {on(api.CX, 0), api.ErrMany}, {on(api.CX, 0, 1, 2), api.ErrMany}, {on(api.CCX, 1000, 1), api.ErrMany}, {on(api.CCX, 0, 1, 2, 3), api.ErrMany}, {api.Gate{Kind: api.Measure, Bit: 1000, If: 1}, api.ErrMany}, {when(-1, api.Reset, 0, 0), api.ErrMany},
		{on(api.H, 1000), api.ErrRange}, {on(api.H, -1), api.ErrRange}, {on(api.H, low), api.ErrRange}, {on(api.H, high), api.ErrRange}, {on(api.CX, 0, 1000), api.ErrRange}, {on(api.CCX, 0, -1, 0), api.ErrRange},
		{look(0, 1000), api.ErrRange}, {look(0, -1), api.ErrRange}, {look(0, low), api.ErrRange}, {look(0, high), api.ErrRange}, {api.Gate{Kind: api.X, Wires: []int{0}, Bit: 1000}, api.ErrRange}, {api.Gate{Kind: api.X, Wires: []int{0}, Bit: -1}, api.ErrRange},
		{when(1001, api.X, 0), api.ErrRange}, {when(-1, api.X, 0), api.ErrRange}, {when(low, api.X, 0), api.ErrRange}, {when(high, api.X, 0), api.ErrRange}, {when(1001, api.Measure, 0), api.ErrRange}, {when(-1, api.Reset, 0), api.ErrRange}, {api.Gate{Kind: api.X, Wires: []int{0}, Bit: 5, If: 1001}, api.ErrRange}, {api.Gate{Kind: api.Reset, Wires: []int{1000}, If: 1}, api.ErrRange},
		{api.Gate{Kind: api.X, Wires: []int{0}, Bit: 1}, api.ErrClash}, {api.Gate{Kind: api.Reset, Wires: []int{0}, Bit: 999}, api.ErrClash}, {when(1, api.Measure, 0), api.ErrClash}, {when(1000, api.Reset, 0), api.ErrClash}, {api.Gate{Kind: api.CX, Wires: []int{0, 1}, Bit: 1, If: 1}, api.ErrClash}, {api.Gate{Kind: api.Measure, Wires: []int{0}, Bit: 1, If: 1}, api.ErrClash},
	} {
		if s, e := text.Show(x.g); s != "" || e != x.e {
			t.Error(i, s, e)
		}
	}
}

func TestTidy(t *testing.T) {
	for i, x := range []struct{ s, want string }{
		{"wires 1 bits 0;", "wires 1;\n"}, {"wires2bits1;h#\n0;measure 1 0;if 0:x 0;#so", "wires 2 bits 1;\nh 0;\nmeasure 1 0;\nif 0: x 0;\n"}, {"wires 3;\n", "wires 3;\n"},
	} {
		if s, at, e := text.Tidy(x.s); s != x.want || at != 0 || e != api.OK {
			t.Error(i, s, at, e)
		}
	}
}

// P5.3

func TestWhere(t *testing.T) {
	s := "# one\nwires 2 bits 1 ; x 0; if 0 # x\n: cx\n0 1 ;measure 0 0;# end"
	for i, want := range []string{"x 0;", "if 0 # x\n: cx\n0 1 ;", "measure 0 0;"} {
		if from, to, e := text.Where(s, i); e != api.OK || from != strings.Index(s, want) || to != from+len(want) {
			t.Error(i, from, to, e)
		}
	}
	for _, gate := range []int{3, 4, -1, math.MinInt, math.MaxInt} {
		if from, to, e := text.Where(s, gate); from != 0 || to != 0 || e != api.ErrNot {
			t.Error(gate, from, to, e)
		}
	}
	if _, _, e := text.Where("wires 1;", 0); e != api.ErrNot {
		t.Error(e)
	}
	for gate := range 120 {
		if from, to, e := text.Where(many(120), gate); from != 8+4*gate || to != from+4 || e != api.OK {
			t.Error(gate, from, to, e)
		}
	}
}

func TestPut(t *testing.T) {
	s := "wires 1;\nh 0; # so\nt 0;"
	for i, x := range []struct {
		gate    int
		u, want string
	}{
		{0, "x 0; z 0;", "wires 1;\nx 0; z 0; # so\nt 0;"}, {1, "s 0;", "wires 1;\nh 0; # so\ns 0;"}, {0, "", "wires 1;\n # so\nt 0;"}, {1, "", "wires 1;\nh 0; # so\n"}, {0, "#", "wires 1;\n# # so\nt 0;"}, {1, "# ä\xff", "wires 1;\nh 0; # so\n# ä\xff"}, {1, "\n\ny\n0\n;\n", "wires 1;\nh 0; # so\n\n\ny\n0\n;\n"},
	} {
		if got, e := text.Put(s, x.gate, x.u); got != x.want || e != api.OK {
			t.Error(i, got, e)
		}
	}
	// what is put there may end the gate before, or begin the one behind
	if got, e := text.Put("wires 2; x 0; cx 0 1;", 0, "if 0: y 0; #\nif 0"); got != "" || e != api.ErrForm {
		t.Error(got, e)
	}
	if got, e := text.Put("wires 2 bits 1; x 0; cx 0 1;", 0, "if 0:"); got != "wires 2 bits 1; if 0: cx 0 1;" || e != api.OK {
		t.Error(got, e)
	}
}

func TestInsert(t *testing.T) {
	s := "wires 1;\nh 0; # so\nt 0;"
	for i, x := range []struct {
		s       string
		gate    int
		u, want string
	}{
		{s, 0, "s 0;", "wires 1;\ns 0;\nh 0; # so\nt 0;"}, {s, 1, "s 0;", "wires 1;\nh 0; # so\ns 0;\nt 0;"}, {s, 2, "s 0;", s + "\ns 0;"}, {s, 0, "", "wires 1;\n\nh 0; # so\nt 0;"}, {s, 2, "", s + "\n"}, {s, 0, "#", "wires 1;\n#\nh 0; # so\nt 0;"}, {s, 2, "# x", s + "\n# x"},
		{"wires 1;", 0, "x 0;", "wires 1;\nx 0;"}, {"wires 1;# end", 0, "x 0;y 0;", "wires 1;# end\nx 0;y 0;"}, {"wires 1 bits 1; x 0;", 0, "if 0:", "wires 1 bits 1; if 0:\nx 0;"}, {many(119), 119, "x 0;", many(119) + "\nx 0;"},
	} {
		if got, e := text.Insert(x.s, x.gate, x.u); got != x.want || e != api.OK {
			t.Error(i, got, e)
		}
	}
}

func TestErrorsOfChanges(t *testing.T) {
	s := "wires 2 bits 1; x 0; y 1;"
	for _, gate := range []int{-1, 3, math.MinInt, math.MaxInt} {
		for _, u := range []string{"", "!"} {
			put, e := text.Put(s, gate, u)
			inserted, f := text.Insert(s, gate, u)
			if put != "" || inserted != "" || e != api.ErrNot || f != api.ErrNot {
				t.Error(gate, put, inserted, e, f)
			}
		}
	}
	if put, e := text.Put(s, 2, "z 0;"); put != "" || e != api.ErrNot {
		t.Error(put, e)
	}
	for i, x := range []struct {
		u string
		e api.Errno
	}{
		{"!", api.ErrForm}, {"x 0", api.ErrForm}, {";", api.ErrForm}, {"hh 0;", api.ErrForm}, {"x 00;", api.ErrForm}, {"wires 2;", api.ErrForm}, {"x 2;", api.ErrNot}, {"cx 0 0;", api.ErrTwice}, {"if 1: x 0;", api.ErrNot}, {"if 0: reset 0;", api.ErrClash}, {many(121)[8:], api.ErrMany}, {strings.Repeat(" ", api.MaxBytes), api.ErrLong}, {strings.Repeat("!", api.MaxBytes), api.ErrLong},
	} {
		for gate := range 3 {
			if got, e := text.Insert(s, gate, x.u); got != "" || e != x.e {
				t.Error("Insert", i, gate, got, e)
			}
			if got, e := text.Put(s, gate, x.u); gate < 2 && (got != "" || e != x.e) {
				t.Error("Put", i, gate, got, e)
			}
		}
	}
	if got, e := text.Insert(many(120), 120, "x 0;"); got != "" || e != api.ErrMany {
		t.Error(got, e)
	}
}

func TestLongChanges(t *testing.T) {
	s := "wires 1; x 0;"
	room := api.MaxBytes - len(s)
	blanks := func(n int) string { return strings.Repeat(" ", n) }
	for i, x := range []struct {
		got func() (string, api.Errno)
		e   api.Errno
	}{
		{func() (string, api.Errno) { return text.Put(s, 0, blanks(room+4)) }, api.OK},
		{func() (string, api.Errno) { return text.Put(s, 0, blanks(room+5)) }, api.ErrLong},
		{func() (string, api.Errno) { return text.Insert(s, 0, blanks(room-1)) }, api.OK},
		{func() (string, api.Errno) { return text.Insert(s, 0, blanks(room)) }, api.ErrLong},
		{func() (string, api.Errno) { return text.Insert(s, 1, blanks(room-1)) }, api.OK},
		{func() (string, api.Errno) { return text.Insert(s, 1, blanks(room)) }, api.ErrLong},
		{func() (string, api.Errno) { return text.Insert(padded(s, api.MaxBytes), 0, "") }, api.ErrLong},
		{func() (string, api.Errno) { return text.Put(padded(s, api.MaxBytes), 0, "y 0;") }, api.OK},
	} {
		got, e := x.got()
		length := 0
		if x.e == api.OK {
			length = api.MaxBytes
		}
		if e != x.e || len(got) != length {
			t.Error(i, e, len(got))
		}
	}
}

// P5.4

func TestPlace(t *testing.T) {
	for _, s := range []string{"", "\n", "\n\n", "wires 1;\nh 0; # so\nt 0;", "a\n\nbc\n", "ä\r\n\xff∞\n!", "no end"} {
		for at := range len(s) + 1 {
			lines := strings.Split(s[:at], "\n")
			line, column, e := text.Place(s, at)
			if line != len(lines) || column != len(lines[len(lines)-1])+1 || e != api.OK {
				t.Error(s, at, line, column, e)
			}
		}
		for _, at := range []int{-1, len(s) + 1, math.MinInt, math.MaxInt} {
			if line, column, e := text.Place(s, at); line != 0 || column != 0 || e != api.ErrRange {
				t.Error(s, at, line, column, e)
			}
		}
	}
	for _, x := range []struct {
		length, at, line, column int
		e                        api.Errno
	}{{api.MaxBytes, api.MaxBytes, api.MaxBytes + 1, 1, api.OK}, {api.MaxBytes, api.MaxBytes + 1, 0, 0, api.ErrRange}, {api.MaxBytes + 1, 0, 0, 0, api.ErrLong}, {api.MaxBytes + 1, -1, 0, 0, api.ErrLong}} {
		if line, column, e := text.Place(strings.Repeat("\n", x.length), x.at); line != x.line || column != x.column || e != x.e {
			t.Error(x, line, column, e)
		}
	}
}

// P5.5

func TestReadWhatWasPrinted(t *testing.T) {
	d := draws(2)
	printed := map[string]api.Circuit{}
	for i := range 4000 {
		c := d.circuit(d.below(4))
		if i%100 == 0 {
			c = d.circuit(120)
		}
		s, e := text.Print(c)
		if e != api.OK || s != modelPrint(c) {
			t.Fatal(c, s, e)
		}
		lines := strings.SplitAfter(s, "\n")
		for k, g := range c.Gates {
			if line, e := text.Show(g); e != api.OK || line+"\n" != lines[k+1] {
				t.Fatal(g, line, e)
			}
		}
		got, at, e := text.Parse(s)
		if !circ.Same(got, c) || at != 0 || e != api.OK {
			t.Fatal(s, got, at, e)
		}
		if other, ok := printed[s]; ok && !circ.Same(other, c) {
			t.Fatal(other, c)
		}
		printed[s] = c
		tidy, at, e := text.Tidy(s)
		if tidy != s || at != 0 || e != api.OK {
			t.Fatal(tidy, s)
		}
	}
}

func TestLayoutAnywhere(t *testing.T) {
	d := draws(3)
	for range 4000 {
		c := d.circuit(d.below(6))
		s := d.laid(c)
		got, at, e := text.Parse(s)
		tidy, _, f := text.Tidy(s)
		if !circ.Same(got, c) || at != 0 || e != api.OK || tidy != modelPrint(c) || f != api.OK {
			t.Fatalf("%q %v %d %d", s, got, at, e)
		}
	}
}

// within reports whether a word or a number goes on over an index of a right text.
func within(s string, at int) bool {
	for _, x := range modelCut(s) {
		if x.At < at && at < x.At+len(x.Text) {
			return true
		}
	}
	return false
}

func TestBeginnings(t *testing.T) {
	d := draws(4)
	for range 300 {
		c := d.circuit(d.below(6))
		s := d.laid(c)
		for at := range len(s) + 1 {
			got, index, e := text.Parse(s[:at])
			switch {
			case e == api.OK:
				if got.Wires != c.Wires || got.Bits != c.Bits || !circ.Same(got, api.Circuit{Wires: c.Wires, Bits: c.Bits, Gates: c.Gates[:len(got.Gates)]}) {
					t.Fatalf("%q %v", s[:at], got)
				}
			case e != api.ErrForm || index != at && !within(s, at):
				t.Fatalf("%q %d %d", s[:at], index, e)
			}
		}
	}
}

func TestWrongStaysWrong(t *testing.T) {
	d := draws(5)
	found := 0
	for range 5000 {
		s := d.spoiled(d.laid(d.circuit(d.below(4)))) + "\n;"
		_, at, e := text.Parse(s)
		if e != api.ErrForm || at >= len(s)-1 {
			continue
		}
		found++
		for _, more := range []string{";", "!", "x 0;", "0", " wires 3;", "#", d.spoiled("x 0; y 1;")} {
			if _, again, e := text.Parse(s + more); again != at || e != api.ErrForm {
				t.Fatalf("%q %q %d %d", s, more, at, again)
			}
		}
	}
	if found < 1000 {
		t.Error(found)
	}
}

func TestChangesLeaveTheRest(t *testing.T) {
	d := draws(6)
	for range 3000 {
		c := d.circuit(1 + d.below(5))
		s := d.laid(c)
		gate := d.below(len(c.Gates))
		_, bytes, _, _ := modelParse(s)
		from, to, e := text.Where(s, gate)
		if e != api.OK || [2]int{from, to} != bytes[gate] {
			t.Fatalf("%q %d %d %d", s, gate, from, to)
		}
		var more []api.Gate
		u := d.layout()
		for range d.below(3) {
			g := d.gate(c.Wires, c.Bits)
			more = append(more, g)
			u += modelLine(g) + d.layout()
		}
		put, e := text.Put(s, gate, u)
		got, _, f := text.Parse(put)
		if put != s[:from]+u+s[to:] || e != api.OK || f != api.OK || !slices.EqualFunc(got.Gates, slices.Concat(c.Gates[:gate], more, c.Gates[gate+1:]), sameGates) {
			t.Fatalf("%q %d %q: %q", s, gate, u, put)
		}
		inserted, e := text.Insert(s, gate, u)
		got, _, f = text.Parse(inserted)
		if inserted != s[:from]+u+"\n"+s[from:] || e != api.OK || f != api.OK || !slices.EqualFunc(got.Gates, slices.Concat(c.Gates[:gate], more, c.Gates[gate:]), sameGates) {
			t.Fatalf("%q %d %q: %q", s, gate, u, inserted)
		}
		last, e := text.Insert(s, len(c.Gates), u)
		got, _, f = text.Parse(last)
		if last != s+"\n"+u || e != api.OK || f != api.OK || !slices.EqualFunc(got.Gates, slices.Concat(c.Gates, more), sameGates) {
			t.Fatalf("%q %q: %q", s, u, last)
		}
	}
}

func sameGates(g, h api.Gate) bool {
	return circ.Same(api.Circuit{Gates: []api.Gate{g}}, api.Circuit{Gates: []api.Gate{h}})
}

// TestAnyChange puts any bytes into texts.
func TestAnyChange(t *testing.T) {
	d := draws(7)
	errors := map[api.Errno]int{}
	for range 10000 {
		c := d.circuit(1 + d.below(3))
		s := d.laid(c)
		gate := d.below(len(c.Gates))
		from, to, _ := text.Where(s, gate)
		u := d.spoiled(d.of("", "x 0;", "if 0: y 1;", "measure 1 0; ", "cx 0 1 #"))
		for name, x := range map[string]struct {
			change func(string, int, string) (string, api.Errno)
			want   string
		}{"Put": {text.Put, s[:from] + u + s[to:]}, "Insert": {text.Insert, s[:from] + u + "\n" + s[from:]}} {
			_, _, _, want := modelParse(x.want)
			if want != api.OK {
				x.want = ""
			}
			got, e := x.change(s, gate, u)
			if got != x.want || e != want {
				t.Fatalf("%s %q %d %q: %q %d, wanted %q %d", name, s, gate, u, got, e, x.want, want)
			}
			errors[e]++
		}
	}
	for _, e := range []api.Errno{api.OK, api.ErrForm, api.ErrNot} {
		if errors[e] < 20 {
			t.Error(errors)
		}
	}
}

// R4

func TestMemory(t *testing.T) {
	s := "wires 3; x 0; ccx 0 1 2; ccx 2 1 0;"
	l, _, _ := text.Tokens(s)
	again, _, _ := text.Tokens(s)
	clear(l)
	if want, _, _ := modelTokens(s); !slices.Equal(again, want) {
		t.Error(again)
	}
	c, _, _ := text.Parse(s)
	d, _, _ := text.Parse(s)
	want, _, _, _ := modelParse(s)
	for _, g := range c.Gates {
		_ = append(g.Wires, 99, 99, 99)
	}
	if !circ.Same(c, want) {
		t.Error("gates share room", c)
	}
	clear(c.Gates[1].Wires)
	c.Gates[0] = on(99)
	if !circ.Same(d, want) || !slices.Equal(c.Gates[2].Wires, []int{2, 1, 0}) {
		t.Error(c, d)
	}
	room := []int{0, 1, 2, 7, 8}
	printed := api.Circuit{Wires: 3, Bits: 1, Gates: []api.Gate{on(api.CCX, room[:3]...), look(0, 0), {Kind: api.Measure, Wires: room[1:2]}}}
	printed.Gates[1].Wires = room[:1]
	text.Print(printed)
	text.Show(printed.Gates[1])
	text.Show(printed.Gates[2])
	if !slices.Equal(room, []int{0, 1, 2, 7, 8}) {
		t.Error("an argument is changed", room)
	}
}

// P0.1

func TestAnything(t *testing.T) {
	d := draws(8)
	numbers := []int{math.MinInt, math.MinInt + 1, -1, 0, 1, 2, 12, 13, 14, 15, 999, 1000, 1001, 1 << 32, math.MaxInt - 1, math.MaxInt}
	odd := func() int { return numbers[d.below(len(numbers))] }
	for range 20000 {
		s := ""
		for range d.below(20) {
			s += d.of(" ", "\n", "#", "wires 3;", "x 0;", "if 0:", ":", ";", "0", "9", "a", "\x80", "\xe2\x88", "∞", string([]byte{byte(d.below(256))}))
		}
		checkAsModel(t, s)
		u := d.spoiled(s)
		text.Where(s, odd())
		text.Put("wires 1; x 0;", odd(), u)
		text.Insert("wires 1; x 0;", odd(), u)
		text.Place(s, odd())
		g := api.Gate{Kind: odd(), Bit: odd(), If: odd()}
		for range d.below(4) {
			g.Wires = append(g.Wires, odd())
		}
		line, e := text.Show(g)
		if (e == api.OK) != (line != "") || e == api.OK && line != modelLine(g) {
			t.Fatal(g, line, e)
		}
		text.Print(api.Circuit{Wires: odd(), Bits: odd(), Gates: []api.Gate{g}})
	}
}
