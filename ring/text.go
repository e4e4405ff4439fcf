package ring

import (
	"strconv"
	"strings"

	"spoondrift/api"
)

// names are what is written behind the coefficients.
var names = [4]string{"", "w", "w2", "w3"}

// Print returns the text of a number.
func Print(x api.Num) (string, api.Errno) {
	if e := Check(x); e != api.OK {
		return "", e
	}
	l := working{x}.least()
	terms := printTerms(l.coefs())
	if l.K == 0 {
		return terms, api.OK
	}
	return "(" + terms + ")/r" + strconv.Itoa(l.K), api.OK
}

func printTerms(c coefs) string {
	text := ""
	for i, n := range c {
		if n == 0 {
			continue
		}
		if n > 0 && text != "" {
			text += "+"
		}
		text += printTerm(n, names[i])
	}
	if text == "" {
		return "0"
	}
	return text
}

func printTerm(n int, name string) string {
	switch {
	case name == "" || n != 1 && n != -1:
		return strconv.Itoa(n) + name
	case n < 0:
		return "-" + name
	}
	return name
}

// Parse returns the number of which s is the text.
func Parse(s string) (api.Num, api.Errno) {
	terms, k, ok := cutRoot(s)
	if !ok {
		return api.Num{}, api.ErrForm
	}
	c, ok := readTerms(terms)
	if !ok {
		return api.Num{}, api.ErrForm
	}
	// what was read too kindly is printed in another way
	x := over(c, k).Num
	if text, e := Print(x); e != api.OK || text != s {
		return api.Num{}, api.ErrForm
	}
	return x, api.OK
}

// cutRoot returns the terms of a text, and the power of r below them.
func cutRoot(s string) (string, int, bool) {
	inner, ok := strings.CutPrefix(s, "(")
	if !ok {
		return s, 0, true
	}
	terms, root, ok := strings.Cut(inner, ")/r")
	k, length := readDigits(root)
	return terms, k, ok && length == len(root)
}

func readTerms(s string) (coefs, bool) {
	var c coefs
	for s != "" {
		i, n, rest := readTerm(s)
		if len(rest) == len(s) {
			return coefs{}, false
		}
		c[i] = n
		s = rest
	}
	return c, true
}

// readTerm returns the place of a term, its coefficient, and the text behind it: all of s if no term is in front.
func readTerm(s string) (int, int, string) {
	rest, minus := strings.CutPrefix(s, "-")
	if !minus {
		rest = strings.TrimPrefix(s, "+")
	}
	n, length := readDigits(rest)
	if length == 0 {
		n = 1
	}
	if minus {
		n = -n
	}
	rest = rest[length:]
	// the name w is the beginning of the longer ones
	for i := len(names) - 1; i > 0; i-- {
		if behind, ok := strings.CutPrefix(rest, names[i]); ok {
			return i, n, behind
		}
	}
	return 0, n, rest
}

// readDigits returns the number in front of s, and how many digits it has; it stops where the number is too large for a coefficient.
func readDigits(s string) (int, int) {
	n := 0
	length := len(s)
digits:
	for i, c := range s {
		switch {
		case n <= api.MaxCoef && c >= '0' && c <= '9':
			n = 10*n + int(c-'0')
		default:
			length = i
			break digits
		}
	}
	return n, length
}
