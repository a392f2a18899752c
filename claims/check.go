// Package claims: what claims may be, their plain text, and the reading of their texts.
package claims

import (
	"slices"
	"unicode/utf8"

	"mandate/api"
)

// IsName tells whether a text is a name.
func IsName(text string) bool {
	return len(text) >= 1 && len(text) <= api.MaxName && utf8.ValidString(text)
}

// IsPlainName tells whether a text may be the name of a key or of a client.
func IsPlainName(text string) bool {
	for i := range len(text) {
		if !isDigit(text[i]) && !isSmallLetter(text[i]) {
			return false
		}
	}
	return len(text) >= 1 && len(text) <= api.MaxName
}

func isSmallLetter(c byte) bool {
	return c >= 'a' && c <= 'z'
}

// IsList tells whether texts are a list of names.
func IsList(texts []string) bool {
	if len(texts) > api.MaxList {
		return false
	}
	for i, text := range texts {
		if !IsName(text) || slices.Contains(texts[:i], text) {
			return false
		}
	}
	return true
}

// IsNumber tells whether n is a number.
func IsNumber(n int) bool {
	return n >= 0 && n <= api.MaxNumber
}

// areClaims tells whether every field of c is what it may be.
func areClaims(c api.Claims) bool {
	return IsNumber(c.Id) && IsName(c.Subject) && IsNumber(c.Expiry) &&
		IsList(c.Scopes) && IsList(c.Targets) && IsList(c.Actors)
}
