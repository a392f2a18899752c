package seal

import (
	"strings"

	"mandate/api"
	"mandate/claims"
	"mandate/digest"
	"mandate/sixbit"
)

// What stands around the key's name in a token's head.
const (
	headStart = `{"alg":"HS256","kid":"`
	headEnd   = `"}`
)

const (
	partCount = 3
	dot       = "."
)

// Sign answers the token of a text, by the key that signs.
func (r *Ring) Sign(text string) string {
	key := r.keys[r.used]
	signed := sixbit.Pack(headStart+key.Name+headEnd) + dot + sixbit.Pack(text)
	mac := digest.Mac(key.Secret, signed)
	return signed + dot + sixbit.Pack(string(mac[:]))
}

// Open answers the text that a token was signed for: ErrForm, if it has not the parts of one; ErrKey, if its key is
// not on the ring; ErrSum, if its mac is not by that key.
func (r *Ring) Open(token string) (string, api.Errno) {
	parts, ok := unpackParts(token)
	if !ok {
		return "", api.ErrForm
	}
	name, ok := keyName(parts[0])
	if !ok {
		return "", api.ErrForm
	}
	at := r.find(name)
	if at < 0 {
		return "", api.ErrKey
	}
	signed := token[:strings.LastIndex(token, dot)]
	if !isMac(parts[2], digest.Mac(r.keys[at].Secret, signed)) {
		return "", api.ErrSum
	}
	return parts[1], api.OK
}

// unpackParts answers what the three parts of a token are Base64 of.
func unpackParts(token string) ([partCount]string, bool) {
	var parts [partCount]string
	packed := strings.Split(token, dot)
	if len(packed) != partCount {
		return parts, false
	}
	for i := range parts {
		bytes, errno := sixbit.Unpack(packed[i])
		if errno != api.OK {
			return parts, false
		}
		parts[i] = bytes
	}
	return parts, true
}

// keyName answers the name of the key that a head tells.
func keyName(head string) (string, bool) {
	rest, started := strings.CutPrefix(head, headStart)
	name, ended := strings.CutSuffix(rest, headEnd)
	return name, started && ended && claims.IsPlainName(name)
}

// isMac tells whether these bytes are that mac.
func isMac(bytes string, mac [digest.Size]byte) bool {
	var told [digest.Size]byte
	copy(told[:], bytes)
	return len(bytes) == digest.Size && told == mac
}
