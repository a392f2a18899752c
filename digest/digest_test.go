package digest

import (
	"crypto/hmac"
	"crypto/sha256"
	"encoding/hex"
	"math/big"
	"strings"
	"testing"
)

// sample answers n bytes of all values.
func sample(n int) string {
	out := make([]byte, n)
	for i := range out {
		out[i] = byte(i*i*31 + i*7 + n)
	}
	return string(out)
}

func firstPrimes(count int) []int64 {
	var out []int64
	for n := int64(2); len(out) < count; n++ {
		if big.NewInt(n).ProbablyPrime(0) {
			out = append(out, n)
		}
	}
	return out
}

// isRootWord tells whether word is the first 32 bits behind the point of the root (of that degree) of n:
// with the whole part ahead of it, it is the greatest number whose power is not above n * 2^(32*degree).
func isRootWord(word uint32, n, degree int64) bool {
	power := func(x int64) *big.Int { return new(big.Int).Exp(big.NewInt(x), big.NewInt(degree), nil) }
	scaled := new(big.Int).Lsh(big.NewInt(n), uint(32*degree))
	whole := int64(0)
	for power(whole+1).Cmp(big.NewInt(n)) <= 0 {
		whole++
	}
	x := whole<<32 | int64(word)
	return power(x).Cmp(scaled) <= 0 && power(x+1).Cmp(scaled) > 0
}

func TestWordsAreRootsOfPrimes(t *testing.T) {
	primes := firstPrimes(64)
	if primes[7] != 19 || primes[63] != 311 {
		t.Fatalf("the primes are %v", primes)
	}
	for i, word := range startWords() {
		if !isRootWord(word, primes[i], 2) {
			t.Errorf("P3: start word %d is not of the square root of %d", i, primes[i])
		}
	}
	for i, word := range roundWords {
		if !isRootWord(word, primes[i], 3) {
			t.Errorf("P3: round word %d is not of the cube root of %d", i, primes[i])
		}
	}
}

func TestHashOfPublishedTexts(t *testing.T) {
	for text, want := range map[string]string{
		"":    "e3b0c44298fc1c149afbf4c8996fb92427ae41e4649b934ca495991b7852b855",
		"abc": "ba7816bf8f01cfea414140de5dae2223b00361a396177a9cb410ff61f20015ad",
		"abcdbcdecdefdefgefghfghighijhijkijkljklmklmnlmnomnopnopq": "248d6a61d20638b8e5c026930c3e6039a33ce45964ff2167f6ecedd419db06c1",
		strings.Repeat("a", 1000000):                               "cdc76e5c9914fb9281a1c7e284d73e67f1809a48a497200e046d39ccc7112cd0",
	} {
		got := Hash(text)
		if hex.EncodeToString(got[:]) != want {
			t.Errorf("P3: Hash(%.60q) = %x, want %s", text, got, want)
		}
	}
}

func TestHashOfEveryShortLength(t *testing.T) {
	for n := range 260 {
		if text := sample(n); Hash(text) != sha256.Sum256([]byte(text)) {
			t.Errorf("P3: Hash of %d bytes is another one", n)
		}
	}
}

func TestMacOfEveryShortKey(t *testing.T) {
	for n := range 200 {
		for _, length := range []int{0, 1, 55, 56, 63, 64, 65, 200} {
			key, text := sample(n), sample(length)
			h := hmac.New(sha256.New, []byte(key))
			h.Write([]byte(text))
			if got := Mac(key, text); string(got[:]) != string(h.Sum(nil)) {
				t.Errorf("P3: Mac by %d bytes of %d bytes is another one", n, length)
			}
		}
	}
}
