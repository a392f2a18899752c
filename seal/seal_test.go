package seal

import (
	"crypto/hmac"
	"crypto/sha256"
	"encoding/base64"
	"strconv"
	"strings"
	"testing"

	"mandate/api"
)

// packed is Base64, as the library makes it.
func packed(text string) string {
	return base64.RawURLEncoding.EncodeToString([]byte(text))
}

// summed answers two parts with the mac that the library makes of them.
func summed(secret, parts string) string {
	h := hmac.New(sha256.New, []byte(secret))
	h.Write([]byte(parts))
	return parts + "." + packed(string(h.Sum(nil)))
}

// signed answers a token as the document describes it.
func signed(name, secret, text string) string {
	return summed(secret, packed(`{"alg":"HS256","kid":"`+name+`"}`)+"."+packed(text))
}

func manyKeys(n int) []api.Key {
	var keys []api.Key
	for i := range n {
		keys = append(keys, api.Key{Name: "k" + strconv.Itoa(i), Secret: strconv.Itoa(i)})
	}
	return keys
}

func twoKeys(t *testing.T) *Ring {
	t.Helper()
	r, errno := NewRing([]api.Key{{Name: "a", Secret: "one"}, {Name: "b2", Secret: "two"}})
	if errno != api.OK {
		t.Fatalf("P5: NewRing: %d", errno)
	}
	return r
}

func TestNewRing(t *testing.T) {
	for i, keys := range [][]api.Key{
		manyKeys(1),
		manyKeys(api.MaxKeys),
		{{Name: "0"}},
		{{Name: strings.Repeat("z", api.MaxName), Secret: strings.Repeat("\xff", api.MaxSecret)}},
		{{Name: "a", Secret: "same"}, {Name: "b", Secret: "same"}},
	} {
		if r, errno := NewRing(keys); r == nil || errno != api.OK {
			t.Errorf("P5: good keys %d: %v, %d", i, r, errno)
		}
	}
	for i, keys := range [][]api.Key{
		nil,
		{},
		manyKeys(api.MaxKeys + 1),
		{{Name: ""}},
		{{Name: "a"}, {Name: "A"}},
		{{Name: "a"}, {Name: "b"}, {Name: "a"}},
		{{Name: strings.Repeat("z", api.MaxName+1)}},
		{{Name: "a"}, {Name: "b", Secret: strings.Repeat("s", api.MaxSecret+1)}},
	} {
		if r, errno := NewRing(keys); r != nil || errno != api.ErrArg {
			t.Errorf("P5: bad keys %d: %v, %d", i, r, errno)
		}
	}
}

func TestSignAndUse(t *testing.T) {
	r := twoKeys(t)
	for _, step := range []struct {
		use          string
		errno        api.Errno
		name, secret string
	}{{"c", api.ErrKey, "a", "one"}, {"b2", api.OK, "b2", "two"}, {"", api.ErrKey, "b2", "two"}, {"B2", api.ErrKey, "b2", "two"}, {"b2", api.OK, "b2", "two"}, {"a", api.OK, "a", "one"}} {
		if errno := r.Use(step.use); errno != step.errno {
			t.Errorf("P5: Use(%q) = %d, want %d", step.use, errno, step.errno)
		}
		for _, text := range []string{"", "x", "{}", strings.Repeat("long", 100)} {
			if got, want := r.Sign(text), signed(step.name, step.secret, text); got != want {
				t.Errorf("P6: behind Use(%q): Sign(%.20q) = %s, want %s", step.use, text, got, want)
			}
		}
	}
}

func TestSignHasTheKeysAsTheyWere(t *testing.T) {
	keys := manyKeys(2)
	r, _ := NewRing(keys)
	keys[0], keys[1] = api.Key{Name: "other", Secret: "other"}, api.Key{}
	if got, want := r.Sign("x"), signed("k0", "0", "x"); got != want {
		t.Errorf("P2: Sign = %s, want %s", got, want)
	}
	if errno := r.Use("k1"); errno != api.OK {
		t.Errorf("P2: Use: %d", errno)
	}
}

func TestOpen(t *testing.T) {
	r := twoKeys(t)
	for _, text := range []string{"", "x", "{}", "\x00\xff", strings.Repeat("long", 100)} {
		for _, token := range []string{signed("a", "one", text), signed("b2", "two", text)} {
			if got, errno := r.Open(token); got != text || errno != api.OK {
				t.Errorf("P6: Open(%s) = %q, %d, want %q", token, got, errno, text)
			}
		}
	}
}

func TestOpenRefusesForms(t *testing.T) {
	r := twoKeys(t)
	good := signed("a", "one", "text")
	p := strings.Split(good, ".")
	bad := []string{"", ".", "..", "...", "x", p[0], p[0] + "." + p[1], good + ".", "." + good, good + "." + p[2], p[0] + ".." + p[1] + "." + p[2],
		"." + p[1] + "." + p[2], p[1] + "." + p[0] + "." + p[2], " " + good, good + "\n", good + "=", strings.Repeat(".", 100000)}
	for i, part := range p { // each of them no Base64: a sign that is none, a last one alone, bits that are not 0
		for _, wrong := range []string{part + "=", part + "+", part[1:] + "/", "A", "AP9", part + "é"} {
			q := append([]string{}, p...)
			q[i] = wrong
			bad = append(bad, strings.Join(q, "."))
		}
	}
	for _, token := range bad {
		if text, errno := r.Open(token); text != "" || errno != api.ErrForm {
			t.Errorf("P6: Open(%.200q) = %q, %d", token, text, errno)
		}
	}
}

func TestOpenRefusesHeads(t *testing.T) {
	r := twoKeys(t)
	for _, head := range []string{"", "{}", `{"alg":"HS256","kid":"`, `{"alg":"HS256","kid":"}`, `{"alg":"HS256","kid":""}`, `{"alg":"HS256","kid":"A"}`, `{"alg":"HS256","kid":"a-"}`, `{"alg":"HS256","kid":"` + strings.Repeat("a", api.MaxName+1) + `"}`,
		`{"alg":"HS256","kid":"a"} `, ` {"alg":"HS256","kid":"a"}`, `{"alg":"HS256", "kid":"a"}`, `{"kid":"a","alg":"HS256"}`, `{"alg":"none","kid":"a"}`, `{"alg":"hs256","kid":"a"}`, `{"alg":"HS256","kid":"\u0061"}`, `{"alg":"HS256","kid":"a","x":1}`, `{"alg":"HS256","kid":"a"}"}`} {
		if text, errno := r.Open(summed("one", packed(head)+"."+packed("text"))); text != "" || errno != api.ErrForm {
			t.Errorf("P6: Open with the head %s = %q, %d", head, text, errno)
		}
	}
}

func TestOpenRefusesKeysAndSums(t *testing.T) {
	r := twoKeys(t)
	good := signed("a", "one", "text")
	at := strings.LastIndex(good, ".") + 1
	mac, _ := base64.RawURLEncoding.DecodeString(good[at:])
	for _, name := range []string{"c", "b", "b22", "0", strings.Repeat("a", api.MaxName)} {
		for _, token := range []string{signed(name, "one", "text"), packed(`{"alg":"HS256","kid":"`+name+`"}`) + ".."} {
			if text, errno := r.Open(token); text != "" || errno != api.ErrKey {
				t.Errorf("P6: Open(%s) = %q, %d", token, text, errno)
			}
		}
	}
	sums := []string{"", "\x00", string(mac[:31]), string(mac) + "\x00", string(mac) + string(mac), "\x00" + string(mac[:31])}
	for i := range mac {
		other := append([]byte{}, mac...)
		other[i] ^= 1 << (i % 8)
		sums = append(sums, string(other))
	}
	for _, sum := range sums {
		if text, errno := r.Open(good[:at] + packed(sum)); text != "" || errno != api.ErrSum {
			t.Errorf("P6: Open with the mac %x = %q, %d", sum, text, errno)
		}
	}
	other := good[:strings.Index(good, ".")+1] + packed("texts") + good[at-1:]
	for _, token := range []string{signed("a", "two", "text"), signed("b2", "one", "text"), other} {
		if text, errno := r.Open(token); text != "" || errno != api.ErrSum {
			t.Errorf("P6: Open(%s) = %q, %d", token, text, errno)
		}
	}
}

// A sum of fewer bytes than a mac has is another one, though noughts behind would make it the mac.
func TestOpenRefusesACutMacThatEndsInNought(t *testing.T) {
	r := twoKeys(t)
	for i := range 100000 {
		token := signed("a", "one", strconv.Itoa(i))
		at := strings.LastIndex(token, ".") + 1
		mac, _ := base64.RawURLEncoding.DecodeString(token[at:])
		if mac[31] == 0 {
			if text, errno := r.Open(token[:at] + packed(string(mac[:31]))); text != "" || errno != api.ErrSum {
				t.Errorf("P6: Open of a cut mac = %q, %d", text, errno)
			}
			return
		}
	}
	t.Fatal("no mac that ends in 0 was found")
}
