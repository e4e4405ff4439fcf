package text

import "spoondrift/api"

// none is no index.
const none = -1

// The kinds of what is between tokens, and of a byte that cannot be there.
const (
	between = 0
	stray   = -1
)

// sign is a byte that is a token by itself.
type sign [1]byte

var signs = [...]sign{{':'}, {';'}}

// layout tells which bytes are layout, one after the other.
type layout struct{ comment bool }

// takes reports whether the next byte is layout.
func (l *layout) takes(c byte) bool {
	if l.comment {
		l.comment = c != '\n'
		return true
	}
	l.comment = c == '#'
	return l.comment || c == ' ' || c == '\n'
}

// source is a text that is cut into tokens.
type source struct{ text string }

// tokens yields the tokens of a text, each with the index at which it is cut wrong, or none; the one that is cut wrong is the last one, and ends there.
func (s source) tokens(yield func(Token, int) bool) {
	isLayout := new(layout).takes
	var now Token
	for i := range s.text {
		kind := between
		if c := s.text[i]; !isLayout(c) {
			kind = kindOf(c)
		}
		if kind != now.Kind || single(kind) {
			if now.Kind != between && !yield(now, none) {
				return
			}
			now = Token{At: i, Kind: kind}
		}
		now.Text = s.text[now.At : i+1]
		if now.cutWrong() {
			yield(now, i)
			return
		}
	}
	if now.Kind != between {
		yield(now, none)
	}
}

// kindOf returns the kind of the token that a byte begins, or stray.
func kindOf(c byte) int {
	switch {
	case c >= 'a' && c <= 'z':
		return Word
	case c >= '0' && c <= '9':
		return Number
	case isSign(c):
		return int(c)
	}
	return stray
}

func isSign(c byte) bool {
	for _, s := range signs {
		if s == (sign{c}) {
			return true
		}
	}
	return false
}

// single reports whether tokens of a kind have one byte.
func single(kind int) bool { return kind > Number }

// cutWrong reports whether the last byte of a token cannot be there.
func (t Token) cutWrong() bool {
	switch t.Kind {
	case Word:
		return len(t.Text) > api.MaxName
	case Number:
		return len(t.Text) > 3 || len(t.Text) > 1 && t.Text[0] == '0'
	}
	return t.Kind == stray
}
