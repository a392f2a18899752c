package mandate

import (
	"slices"
	"strings"
	"testing"

	"mandate/api"
)

const base64Signs = "ABCDEFGHIJKLMNOPQRSTUVWXYZabcdefghijklmnopqrstuvwxyz0123456789-_"

// mustRefuse asks Look and Revoke to refuse a token for this reason.
func (f *family) mustRefuse(token string, reason api.Errno) {
	f.t.Helper()
	if c, ok, errno := f.s.Look(clientOf(0), token); !same(c, api.Claims{}) || ok || errno != api.OK {
		f.t.Errorf("P10: Look(%q) = %+v, %v, %d", token, c, ok, errno)
	}
	f.revoke(clientOf(0), token, reason)
}

func TestEveryOtherSignOfTheThirdPart(t *testing.T) {
	f := newFamily(t)
	for _, token := range []string{f.line[0], f.line[2]} {
		for at := strings.LastIndex(token, ".") + 1; at < len(token); at++ {
			for value, sign := range base64Signs {
				reason := api.ErrSum
				if at == len(token)-1 && value%4 != 0 { // 32 bytes leave two bits of the last sign
					reason = api.ErrForm
				}
				if other := token[:at] + string(sign) + token[at+1:]; other != token {
					f.mustRefuse(other, reason)
				}
			}
		}
	}
	f.mustBeGone()
}

func TestOtherThirdParts(t *testing.T) {
	f := newFamily(t)
	token := f.line[2]
	parts := strings.Split(token, ".")
	start := parts[0] + "." + parts[1] + "."
	sum := func(secret, text string) string {
		mac := Mac(secret, text)
		return Pack(string(mac[:]))
	}
	mac, _ := Unpack(parts[2])
	secret := twoKeys()[0].Secret
	for _, third := range []string{
		"",
		Pack(mac[:31]),
		Pack(mac + "\x00"),
		Pack(mac + mac),
		Pack(strings.Repeat("\x00", 32)),
		strings.Split(f.line[1], ".")[2],
		strings.Split(f.apart[0], ".")[2],
		sum("", start[:len(start)-1]),
		sum(twoKeys()[1].Secret, start[:len(start)-1]),
		sum(secret, start),
		sum(secret, parts[1]),
		sum(secret, strings.Replace(start[:len(start)-1], ".", "", 1)),
		parts[0],
		parts[1],
	} {
		f.mustBeTakenNowhere(start+third, api.ErrSum)
	}
	for _, third := range []string{parts[2][:1], parts[2] + "=", parts[2] + " ", parts[2] + ".", parts[2] + "\n", "." + parts[2], parts[2][:42] + "+", "\xff"} {
		f.mustBeTakenNowhere(start+third, api.ErrForm)
	}
	f.mustBeGone()
}

// changed answers these claims with each of their fields another one.
func changed(c api.Claims) []api.Claims {
	var others []api.Claims
	add := func(change func(c *api.Claims)) {
		other := c
		change(&other)
		others = append(others, other)
	}
	for _, id := range []int{0, c.Id - 1, c.Id + 1, api.MaxTokens, api.MaxNumber} {
		add(func(c *api.Claims) { c.Id = id })
	}
	for _, expiry := range []int{0, c.Expiry - 1, c.Expiry + 1, api.MaxNumber} {
		add(func(c *api.Claims) { c.Expiry = expiry })
	}
	for _, subject := range []string{"bob", "Ann", "an", "ann ", "\x00"} {
		add(func(c *api.Claims) { c.Subject = subject })
	}
	for _, pick := range []func(c *api.Claims) *[]string{
		func(c *api.Claims) *[]string { return &c.Scopes },
		func(c *api.Claims) *[]string { return &c.Targets },
		func(c *api.Claims) *[]string { return &c.Actors },
	} {
		list := *pick(&c)
		turned := slices.Clone(list)
		slices.Reverse(turned)
		for _, other := range [][]string{nil, turned, list[:max(0, len(list)-1)], list[min(1, len(list)):], slices.Concat(list, []string{"z"}), slices.Concat([]string{"z"}, list)} {
			if !slices.Equal(other, list) {
				add(func(c *api.Claims) { *pick(c) = other })
			}
		}
	}
	add(func(c *api.Claims) { c.Scopes, c.Targets = c.Targets, c.Scopes })
	add(func(c *api.Claims) { c.Targets, c.Actors = c.Actors, c.Targets })
	return others
}

// Claims that are others are not taken, though a right key has signed them, and whoever brings them.
func TestOtherClaimsSignedAnew(t *testing.T) {
	f := newFamily(t)
	for _, token := range []string{f.line[0], f.line[2], f.line[3]} {
		for _, other := range changed(f.claims[token]) {
			if _, isGiven := f.claims[signed(twoKeys()[0], plain(t, other))]; isGiven {
				continue // it has the same claims as another one, but for the Id
			}
			for _, key := range twoKeys() {
				f.mustBeTakenNowhere(signed(key, plain(t, other)), api.ErrGrant)
			}
		}
	}
	f.mustBeGone()
}

// Another name in the head, signed with the key of that name, is the same token; signed with the other one it is none.
func TestOtherHeads(t *testing.T) {
	f := newFamily(t)
	keys := twoKeys()
	text := plain(t, f.claims[f.line[1]])
	f.mustRefuse(signed(api.Key{Name: keys[0].Name, Secret: keys[1].Secret}, text), api.ErrSum)
	f.mustRefuse(signed(api.Key{Name: keys[1].Name, Secret: keys[0].Secret}, text), api.ErrSum)
	f.mustRefuse(signed(api.Key{Name: "k3", Secret: keys[0].Secret}, text), api.ErrKey)
	f.mustBeGone()
	f.revoke(clientOf(1), signed(keys[1], text), api.OK)
	f.mustBeGone(slices.Concat(f.line[1:], f.side[1:])...)
}

// Claims of one token under the Id of another one, which was taken back or not, are those of no token.
func TestClaimsUnderAnotherId(t *testing.T) {
	f := newFamily(t)
	f.revoke(clientOf(0), f.line[1], api.OK)
	for _, c := range f.claims {
		for id := range len(f.claims) + 2 {
			other := c
			other.Id = id
			made := signed(twoKeys()[0], plain(t, other))
			if _, isGiven := f.claims[made]; !isGiven {
				f.mustRefuse(made, api.ErrGrant)
			}
		}
	}
	f.mustBeGone(slices.Concat(f.line[1:], f.side[1:])...)
}
