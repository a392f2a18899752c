package claims

import (
	"strings"
	"unicode/utf8"

	"mandate/api"
)

// firstPlain is the lowest byte that may stand in a string as it is.
const firstPlain = 32

// kind is what a sign of a JSON text is.
type kind int

const (
	wrongSign kind = iota // what JSON does not have, as here
	endSign               // behind the last one
	openObject
	closeObject
	openList
	closeList
	colonSign
	commaSign
	textSign
	numberSign
)

// sign is one sign of a JSON text.
type sign struct {
	kind   kind
	text   string // what a textSign stands for
	number int    // what a numberSign stands for
}

// scanner cuts a JSON text into its signs.
type scanner struct {
	text string
	at   int // of the first byte that is not read yet
}

// next reads one sign, and the blanks ahead of it.
func (s *scanner) next() sign {
	s.skipBlanks()
	if s.at == len(s.text) {
		return sign{kind: endSign}
	}
	c := s.text[s.at]
	switch {
	case c == '"':
		return s.readText()
	case isDigit(c):
		return s.readNumber()
	}
	s.at++
	return sign{kind: markKind(c)}
}

func (s *scanner) skipBlanks() {
	for s.at < len(s.text) && isBlank(s.text[s.at]) {
		s.at++
	}
}

func isBlank(c byte) bool {
	return c == ' ' || c == '\t' || c == '\n' || c == '\r'
}

func isDigit(c byte) bool {
	return c >= '0' && c <= '9'
}

// markKind answers the kind of a sign of one byte.
func markKind(c byte) kind {
	switch c {
	case '{':
		return openObject
	case '}':
		return closeObject
	case '[':
		return openList
	case ']':
		return closeList
	case ':':
		return colonSign
	case ',':
		return commaSign
	}
	return wrongSign
}

// readNumber reads digits. It refuses what is above MaxNumber at once, so that no row of digits runs over.
func (s *scanner) readNumber() sign {
	start := s.at
	n := 0
	for s.at < len(s.text) && isDigit(s.text[s.at]) {
		n = 10*n + int(s.text[s.at]-'0')
		if n > api.MaxNumber {
			return sign{kind: wrongSign}
		}
		s.at++
	}
	if s.text[start] == '0' && s.at > start+1 {
		return sign{kind: wrongSign}
	}
	return sign{kind: numberSign, number: n}
}

// readText reads a string, quotes and all.
func (s *scanner) readText() sign {
	var out []byte
	s.at++
	for s.at < len(s.text) && s.text[s.at] != '"' {
		r, ok := s.readRune()
		if !ok {
			return sign{kind: wrongSign}
		}
		out = utf8.AppendRune(out, r)
	}
	if s.at == len(s.text) {
		return sign{kind: wrongSign}
	}
	s.at++
	return sign{kind: textSign, text: string(out)}
}

// readRune reads one code point inside a string, however it is written.
func (s *scanner) readRune() (rune, bool) {
	c := s.text[s.at]
	if c == '\\' {
		return s.readEscape()
	}
	r, size := utf8.DecodeRuneInString(s.text[s.at:])
	s.at += size
	broken := r == utf8.RuneError && size == 1
	return r, c >= firstPlain && !broken
}

func (s *scanner) readEscape() (rune, bool) {
	s.at++
	if s.at == len(s.text) {
		return 0, false
	}
	c := s.text[s.at]
	s.at++
	switch c {
	case '"', '\\', '/':
		return rune(c), true
	case 'b':
		return '\b', true
	case 'f':
		return '\f', true
	case 'n':
		return '\n', true
	case 'r':
		return '\r', true
	case 't':
		return '\t', true
	case 'u':
		return s.readCodePoint()
	}
	return 0, false
}

// readCodePoint reads what stands behind \u, with the second half of a pair.
func (s *scanner) readCodePoint() (rune, bool) {
	first, ok := s.readFourDigits()
	if !ok || isSecondHalf(first) {
		return 0, false
	}
	if !isFirstHalf(first) {
		return first, true
	}
	if !strings.HasPrefix(s.text[s.at:], `\u`) {
		return 0, false
	}
	s.at += 2
	second, ok := s.readFourDigits()
	if !ok || !isSecondHalf(second) {
		return 0, false
	}
	return 0x10000 + (first-0xd800)<<10 + (second - 0xdc00), true
}

func isFirstHalf(r rune) bool {
	return r >= 0xd800 && r <= 0xdbff
}

func isSecondHalf(r rune) bool {
	return r >= 0xdc00 && r <= 0xdfff
}

func (s *scanner) readFourDigits() (rune, bool) {
	if len(s.text)-s.at < 4 {
		return 0, false
	}
	var r rune
	for range 4 {
		digit, ok := hexValue(s.text[s.at])
		if !ok {
			return 0, false
		}
		r = r<<4 | digit
		s.at++
	}
	return r, true
}

func hexValue(c byte) (rune, bool) {
	switch {
	case isDigit(c):
		return rune(c - '0'), true
	case c >= 'a' && c <= 'f':
		return rune(c-'a') + 10, true
	case c >= 'A' && c <= 'F':
		return rune(c-'A') + 10, true
	}
	return 0, false
}
