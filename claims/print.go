package claims

import (
	"strconv"

	"mandate/api"
)

const hexDigits = "0123456789abcdef"

// Print answers the plain text of claims; ErrForm, if c are none.
func Print(c api.Claims) (string, api.Errno) {
	if !areClaims(c) {
		return "", api.ErrForm
	}
	var out []byte
	out = append(out, `{"jti":`...)
	out = strconv.AppendInt(out, int64(c.Id), 10)
	out = append(out, `,"sub":`...)
	out = appendText(out, c.Subject)
	out = append(out, `,"scp":`...)
	out = appendList(out, c.Scopes)
	out = append(out, `,"aud":`...)
	out = appendList(out, c.Targets)
	out = append(out, `,"act":`...)
	out = appendList(out, c.Actors)
	out = append(out, `,"exp":`...)
	out = strconv.AppendInt(out, int64(c.Expiry), 10)
	out = append(out, '}')
	return string(out), api.OK
}

func appendList(out []byte, texts []string) []byte {
	out = append(out, '[')
	for i, text := range texts {
		if i > 0 {
			out = append(out, ',')
		}
		out = appendText(out, text)
	}
	return append(out, ']')
}

func appendText(out []byte, text string) []byte {
	out = append(out, '"')
	for i := range len(text) {
		c := text[i]
		switch {
		case c == '"' || c == '\\':
			out = append(out, '\\', c)
		case c < firstPlain:
			out = append(out, '\\', 'u', '0', '0', hexDigits[c>>4], hexDigits[c&15])
		default:
			out = append(out, c)
		}
	}
	return append(out, '"')
}
