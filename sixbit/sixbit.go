// Package sixbit: Base64, six bits a character.
package sixbit

import "mandate/api"

const alphabet = "ABCDEFGHIJKLMNOPQRSTUVWXYZabcdefghijklmnopqrstuvwxyz0123456789-_"

// Pack answers Base64 of the bytes.
func Pack(bytes string) string {
	out := make([]byte, 0, len(bytes)/3*4+4)
	var held uint32 // its low bits are those that no character has yet
	count := 0      // how many these are
	for i := range len(bytes) {
		held = held<<8 | uint32(bytes[i])
		count += 8
		for count >= 6 {
			count -= 6
			out = append(out, alphabet[held>>count&63])
		}
	}
	if count > 0 {
		out = append(out, alphabet[held<<(6-count)&63])
	}
	return string(out)
}

// Unpack answers the bytes that text is Base64 of; ErrForm, if there are none.
func Unpack(text string) (string, api.Errno) {
	if len(text)%4 == 1 { // the last character would stand alone: six bits are no byte
		return "", api.ErrForm
	}
	out := make([]byte, 0, len(text)/4*3+3)
	var held uint32
	count := 0
	for i := range len(text) {
		value, ok := sixBits(text[i])
		if !ok {
			return "", api.ErrForm
		}
		held = held<<6 | value
		count += 6
		if count >= 8 {
			count -= 8
			out = append(out, byte(held>>count))
		}
	}
	if held&(1<<count-1) != 0 { // else several texts would stand for the same bytes
		return "", api.ErrForm
	}
	return string(out), api.OK
}

// sixBits answers what a character stands for, and whether it stands for anything.
func sixBits(c byte) (uint32, bool) {
	switch {
	case c >= 'A' && c <= 'Z':
		return uint32(c - 'A'), true
	case c >= 'a' && c <= 'z':
		return uint32(c-'a') + 26, true
	case c >= '0' && c <= '9':
		return uint32(c-'0') + 52, true
	case c == '-':
		return 62, true
	case c == '_':
		return 63, true
	}
	return 0, false
}
