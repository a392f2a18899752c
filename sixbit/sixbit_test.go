package sixbit

import (
	"encoding/base64"
	"strings"
	"testing"

	"mandate/api"
)

var reference = base64.RawURLEncoding.Strict()

// wanted answers what Unpack should: the library's reader passes over line ends, which are no characters here.
func wanted(text string) (string, api.Errno) {
	out, err := reference.DecodeString(text)
	if err != nil || strings.ContainsAny(text, "\r\n") {
		return "", api.ErrForm
	}
	return string(out), api.OK
}

func checkUnpack(t *testing.T, text string) {
	t.Helper()
	got, errno := Unpack(text)
	want, wantErrno := wanted(text)
	if got != want || errno != wantErrno {
		t.Fatalf("P3: Unpack(%q) = %q, %d, want %q, %d", text, got, errno, want, wantErrno)
	}
}

func checkPack(t *testing.T, bytes string) {
	t.Helper()
	text := Pack(bytes)
	if want := reference.EncodeToString([]byte(bytes)); text != want {
		t.Fatalf("P3: Pack(%q) = %q, want %q", bytes, text, want)
	}
	if back, errno := Unpack(text); back != bytes || errno != api.OK {
		t.Fatalf("P3: Unpack(%q) = %q, %d, want %q", text, back, errno, bytes)
	}
}

func TestEveryTwoBytes(t *testing.T) {
	for a := range 256 {
		checkPack(t, string([]byte{byte(a)}))
		checkUnpack(t, string([]byte{byte(a)}))
		for b := range 256 {
			checkPack(t, string([]byte{byte(a), byte(b)}))
			checkUnpack(t, string([]byte{byte(a), byte(b)}))
		}
	}
}

func TestEveryLastCharacter(t *testing.T) {
	for _, ahead := range []string{"", "_", "__", "___", "____", "_____", "______", "_______"} {
		for c := range 256 {
			checkUnpack(t, ahead+string([]byte{byte(c)}))
		}
	}
}

func TestEveryPlaceOfAWrongCharacter(t *testing.T) {
	good := Pack("eleven bytes and more of them")
	for i := range len(good) {
		for c := range 256 {
			checkUnpack(t, good[:i]+string([]byte{byte(c)})+good[i+1:])
		}
	}
}

func TestEveryLength(t *testing.T) {
	for n := range 100 {
		checkPack(t, strings.Repeat("\xff\x00\x5a", n)[:n])
		checkUnpack(t, strings.Repeat("A", n))
	}
}

func TestNothing(t *testing.T) {
	if text := Pack(""); text != "" {
		t.Errorf("P3: Pack of nothing = %q", text)
	}
	if bytes, errno := Unpack(""); bytes != "" || errno != api.OK {
		t.Errorf("P3: Unpack of nothing = %q, %d", bytes, errno)
	}
}
