package mandate

import (
	"slices"
	"strconv"
	"strings"
	"testing"

	"mandate/api"
)

// mustRevoke takes a token back.
func mustRevoke(t *testing.T, s *Server, who api.Login, token string) {
	t.Helper()
	if errno := s.Revoke(who, token); errno != api.OK {
		t.Fatalf("P9: Revoke by %s: %d", who.Name, errno)
	}
}

// lineLength is how many clients have a token of the line each; one client more has none.
const lineLength = 4

// clientOf answers the login of the client that holds the token of this place in the line.
func clientOf(place int) api.Login {
	name := "c" + strconv.Itoa(place)
	return api.Login{Name: name, Secret: "secret of " + name}
}

// family is a server with a line of tokens, each of which came of the one ahead of it, and the tokens beside the line.
type family struct {
	t      *testing.T
	s      *Server
	line   []string              // each held by its own client
	side   []string              // side[i] came of line[i], and is held by the same client
	actors []string              // with actors[i] line[i+1] came of line[i]
	apart  []string              // came of none of these
	claims map[string]api.Claims // of all that were given
	bob    string                // a token more that nobody takes back, to be brought beside others
}

func newFamily(t *testing.T) *family {
	t.Helper()
	var clients []api.Client
	for i := range lineLength + 1 {
		who := clientOf(i)
		clients = append(clients, api.Client{Name: who.Name, Secret: who.Secret, Scopes: []string{"r", "w"}, Targets: []string{"t"}, Actors: []string{"bob", "eve", "joe", "kim"}})
	}
	s, errno := New(twoKeys(), clients)
	if errno != api.OK {
		t.Fatalf("P5: New: %d", errno)
	}
	f := &family{t: t, s: s, claims: map[string]api.Claims{}}
	f.bob = f.consent(0, "bob", api.MaxLife)
	f.line = []string{f.consent(0, "ann", 100)}
	f.apart = []string{f.consent(0, "ann", 100), f.consent(1, "ann", 100)}
	for i, subject := range []string{"bob", "eve", "joe"} {
		f.actors = append(f.actors, f.consent(0, subject, 90))
		f.line = append(f.line, f.exchange(i+1, f.line[i], f.actors[i], 80-10*i))
	}
	for i, token := range f.line {
		f.side = append(f.side, f.exchange(i, token, "", 100))
	}
	return f
}

func (f *family) keep(token string, errno api.Errno) string {
	f.t.Helper()
	c, ok, lookErrno := f.s.Look(clientOf(lineLength), token)
	if errno != api.OK || !ok || lookErrno != api.OK {
		f.t.Fatalf("P7, P8: no token is given: %d", errno)
	}
	f.claims[token] = c
	return token
}

func (f *family) consent(client int, subject string, life int) string {
	f.t.Helper()
	return f.keep(f.s.Consent(clientOf(client), subject, []string{"w", "r"}, []string{"t"}, life))
}

func (f *family) exchange(client int, token, actor string, life int) string {
	f.t.Helper()
	return f.keep(f.s.Exchange(clientOf(client), token, actor, nil, nil, life))
}

func (f *family) revoke(who api.Login, token string, want api.Errno) {
	f.t.Helper()
	if errno := f.s.Revoke(who, token); errno != want {
		f.t.Errorf("P9: Revoke by %q of %.60q = %d, want %d", who.Name, token, errno, want)
	}
}

// mustBeGone asks for just these tokens to be taken no more, and all others still.
func (f *family) mustBeGone(gone ...string) {
	f.t.Helper()
	for token, c := range f.claims {
		if slices.Contains(gone, token) {
			f.mustBeTakenNowhere(token, api.ErrGrant)
		} else if got, ok, errno := f.s.Look(clientOf(0), token); !same(got, c) || !ok || errno != api.OK {
			f.t.Errorf("P10: token %d is gone: %+v, %v, %d", c.Id, got, ok, errno)
		}
	}
}

// mustBeTakenNowhere asks every call that takes a token to refuse this one for this reason, whoever brings it.
func (f *family) mustBeTakenNowhere(token string, reason api.Errno) {
	f.t.Helper()
	for i := range lineLength + 1 {
		who := clientOf(i)
		if c, ok, errno := f.s.Look(who, token); !same(c, api.Claims{}) || ok || errno != api.OK {
			f.t.Errorf("P10: Look(%.200q) = %+v, %v, %d", token, c, ok, errno)
		}
		mustNotExchange(f.t, f.s, who, token, wish{life: 1}, reason)
		mustNotExchange(f.t, f.s, who, token, wish{actor: f.bob, life: 1}, reason)
		mustNotExchange(f.t, f.s, who, f.bob, wish{actor: token, life: 1}, reason)
		f.revoke(who, token, reason)
	}
}

// Whoever holds the token, its parent, or that one's, and so on, takes it back; nobody else does.
func TestWhoMayRevoke(t *testing.T) {
	for at := range lineLength {
		for client := range lineLength + 1 {
			for _, isBeside := range []bool{false, true} {
				f := newFamily(t)
				token, gone := f.line[at], slices.Concat(f.line[at:], f.side[at:])
				if isBeside {
					token, gone = f.side[at], f.side[at:at+1]
				}
				want := api.OK
				if client > at {
					want, gone = api.ErrActor, nil
				}
				f.revoke(clientOf(client), token, want)
				f.mustBeGone(gone...)
			}
		}
	}
}

// To hold a token of the same subject, with the same claims but for the Id, is not to hold this one.
func TestRevokeOfATokenThatIsLikeOnesOwn(t *testing.T) {
	f := newFamily(t)
	f.revoke(clientOf(1), f.apart[0], api.ErrActor)
	f.revoke(clientOf(0), f.apart[1], api.ErrActor)
	f.mustBeGone()
	f.revoke(clientOf(1), f.apart[1], api.OK)
	f.mustBeGone(f.apart[1])
}

// untakenTokens answers tokens that are not taken, each with the reason, made of one that is, and of its claims.
func untakenTokens(t *testing.T, taken string, c api.Claims) map[string]api.Errno {
	t.Helper()
	k := twoKeys()[0]
	text := plain(t, c)
	other := c
	other.Scopes = []string{"r"}
	return map[string]api.Errno{
		"":                                    api.ErrForm,
		"no token":                            api.ErrForm,
		"..":                                  api.ErrForm,
		taken[:strings.LastIndex(taken, ".")]: api.ErrForm,
		taken + ".":                           api.ErrForm,
		taken + "=":                           api.ErrForm,
		signed(api.Key{Name: "K", Secret: k.Secret}, text):  api.ErrForm,
		signed(api.Key{Name: "k3", Secret: k.Secret}, text): api.ErrKey,
		signed(api.Key{Name: "k3"}, "no claims"):            api.ErrKey,
		signed(api.Key{Name: "k", Secret: "other"}, text):   api.ErrSum,
		signed(api.Key{Name: "k2", Secret: k.Secret}, "{}"): api.ErrSum,
		signed(k, "no claims"):                              api.ErrForm,
		signed(k, text+"x"):                                 api.ErrForm,
		signed(k, plain(t, other)):                          api.ErrGrant,
	}
}

func TestRevokeRefusesInItsOrder(t *testing.T) {
	f := newFamily(t)
	over := f.consent(0, "ann", 1)
	mustTick(t, f.s, 1)
	delete(f.claims, over)
	untaken := untakenTokens(t, f.line[0], f.claims[f.line[0]])
	untaken[over] = api.ErrGrant
	strangers := []api.Login{{}, {Name: "c0"}, {Name: "c0", Secret: clientOf(1).Secret}, {Name: "C0", Secret: clientOf(0).Secret}, {Name: "c9"}, {Secret: clientOf(0).Secret}}
	for token, errno := range untaken {
		for _, who := range strangers {
			f.revoke(who, token, api.ErrClient)
		}
		for client := range lineLength + 1 { // the holder, and those that hold nothing of it
			f.revoke(clientOf(client), token, errno)
		}
	}
	for _, who := range strangers {
		f.revoke(who, f.line[0], api.ErrClient)
		f.revoke(who, f.line[lineLength-1], api.ErrClient)
	}
	f.revoke(clientOf(lineLength), f.line[0], api.ErrActor)
	f.mustBeGone()
}

func TestRevokeOfWhatWasRevoked(t *testing.T) {
	f := newFamily(t)
	f.revoke(clientOf(2), f.line[2], api.OK)
	for range 2 {
		for client := range lineLength + 1 { // ErrGrant is named ahead of ErrActor
			f.revoke(clientOf(client), f.line[2], api.ErrGrant)
			f.revoke(clientOf(client), f.line[3], api.ErrGrant)
			f.revoke(clientOf(client), f.side[2], api.ErrGrant)
		}
	}
	f.mustBeGone(f.line[2], f.line[3], f.side[2], f.side[3])
	f.revoke(clientOf(0), f.line[1], api.OK) // what it came of is still there to be taken back
	f.mustBeGone(f.line[1], f.line[2], f.line[3], f.side[1], f.side[2], f.side[3])
	f.revoke(clientOf(0), f.line[0], api.OK)
	f.mustBeGone(slices.Concat(f.line, f.side)...)
	f.revoke(clientOf(0), f.apart[0], api.OK)
	f.mustBeGone(slices.Concat(f.line, f.side, f.apart[:1])...)
}

// The token of an actor is no parent: what came about with it stays, but it acts no more.
func TestRevokeOfAnActorsToken(t *testing.T) {
	f := newFamily(t)
	ofEve := f.exchange(0, f.actors[1], "", 50)
	f.revoke(clientOf(1), f.actors[1], api.ErrActor) // who holds what came about with it
	f.revoke(clientOf(2), f.actors[1], api.ErrActor)
	f.revoke(clientOf(0), f.actors[1], api.OK)
	f.mustBeGone(f.actors[1], ofEve)
	for _, actor := range []string{f.actors[1], ofEve} {
		mustNotExchange(t, f.s, clientOf(1), f.line[0], wish{actor: actor, life: 1}, api.ErrGrant)
	}
	f.exchange(2, f.line[2], "", 5) // eve is among its actors still
	f.exchange(1, f.line[0], f.actors[2], 5)
	again := f.consent(0, "eve", 50)
	f.exchange(1, f.line[0], again, 5) // it was the token that was taken back, not the subject
	f.mustBeGone(f.actors[1], ofEve)
}

func TestWhoHoldsTheActorsTokenMayNotRevoke(t *testing.T) {
	f := newFamily(t)
	kim := f.consent(4, "kim", 50)
	made := f.exchange(1, f.line[0], kim, 50)
	f.revoke(clientOf(4), made, api.ErrActor)
	f.mustBeGone()
	f.revoke(clientOf(1), made, api.OK)
	f.mustBeGone(made)
}

func TestRevokeOfATokenThatActsForItself(t *testing.T) {
	f := newFamily(t)
	both := f.exchange(1, f.actors[0], f.actors[0], 50)
	f.revoke(clientOf(0), f.actors[0], api.OK)
	f.mustBeGone(f.actors[0], both)
}

// forget is for tokens whose time is over.
func (f *family) forget(tokens ...string) {
	for _, token := range tokens {
		delete(f.claims, token)
		f.mustBeTakenNowhere(token, api.ErrGrant)
	}
}

func TestTimeGoesOnBesideRevoke(t *testing.T) {
	f := newFamily(t) // the line ends at 100, 80, 70, 60, and so does what is beside it; the actors at 90
	f.revoke(clientOf(1), f.line[3], api.OK)
	for _, now := range []int{0, 1, 59} {
		mustTick(t, f.s, now)
		f.mustBeGone(f.line[3], f.side[3])
	}
	mustTick(t, f.s, 60)
	f.mustBeGone(f.line[3], f.side[3])
	mustTick(t, f.s, 69)
	f.revoke(clientOf(0), f.side[2], api.OK) // in its last moment
	f.mustBeGone(f.line[3], f.side[3], f.side[2])
	mustTick(t, f.s, 70)
	f.revoke(clientOf(2), f.line[2], api.ErrGrant) // over
	f.forget(f.line[2], f.line[3], f.side[2], f.side[3])
	f.revoke(clientOf(1), f.line[1], api.OK)
	f.mustBeGone(f.line[1], f.side[1])
	mustTick(t, f.s, 80)
	mustTick(t, f.s, 90)
	f.forget(f.actors...)
	f.mustBeGone(f.line[1], f.side[1])
	mustTick(t, f.s, 99)
	f.mustBeGone(f.line[1], f.side[1])
	mustTick(t, f.s, 100)
	f.forget(slices.Concat(f.line[:2], f.side[:2], f.apart)...)
	f.mustBeGone()
	mustTick(t, f.s, api.MaxLife)
	f.revoke(clientOf(0), f.bob, api.ErrGrant)
	mustTick(t, f.s, api.MaxNumber)
	for _, token := range slices.Concat(f.line, f.side, f.actors, f.apart) {
		f.revoke(clientOf(0), token, api.ErrGrant)
	}
}

func TestRevokedTokensAreKnownStill(t *testing.T) {
	f := newFamily(t)
	f.revoke(clientOf(0), f.line[0], api.OK)
	for id := len(f.claims) + 1; id <= api.MaxTokens; id++ {
		token := f.consent(0, "ann", 100)
		if f.claims[token].Id != id {
			t.Errorf("P6: the Id is %d, want %d", f.claims[token].Id, id)
		}
		f.revoke(clientOf(0), token, api.OK)
	}
	if token, errno := f.s.Consent(clientOf(0), "ann", []string{"r"}, []string{"t"}, 1); token != "" || errno != api.ErrFull {
		t.Errorf("P7: a token too many: %q, %d", token, errno)
	}
	mustNotExchange(t, f.s, clientOf(0), f.apart[0], wish{life: 1}, api.ErrFull)
	f.revoke(clientOf(0), f.apart[0], api.OK) // there is always room to take one back
	mustNotExchange(t, f.s, clientOf(0), f.apart[0], wish{life: 1}, api.ErrGrant)
}

func TestExchangeAgainAfterRevoke(t *testing.T) {
	f := newFamily(t)
	f.revoke(clientOf(1), f.line[1], api.OK)
	again := f.exchange(1, f.line[0], f.actors[0], 80) // but for the Id the claims are those that were taken back
	child := f.exchange(1, again, "", 80)
	f.mustBeGone(slices.Concat(f.line[1:], f.side[1:])...)
	f.revoke(clientOf(0), again, api.OK)
	f.mustBeGone(append(slices.Concat(f.line[1:], f.side[1:]), again, child)...)
}

// However it is written, and whichever key has signed it, it is the token that the server gave.
func TestRevokeAndTheWritingOfAToken(t *testing.T) {
	text := func(c api.Claims) []string {
		p := plain(t, c)
		return []string{p, " " + p + "\n", strings.ReplaceAll(p, ",", "\t,\r"), strings.Replace(p, "ann", `\u0061nn`, 1), p + strings.Repeat(" ", api.MaxText)}
	}
	for which := range 5 {
		for _, key := range twoKeys() {
			f := newFamily(t)
			f.revoke(clientOf(0), signed(key, text(f.claims[f.line[1]])[which]), api.OK)
			f.mustBeGone(slices.Concat(f.line[1:], f.side[1:])...)
			for _, name := range []string{"k2", "k"} {
				if errno := f.s.Use(name); errno != api.OK {
					t.Errorf("P5: Use(%s): %d", name, errno)
				}
				f.mustBeGone(slices.Concat(f.line[1:], f.side[1:])...)
			}
			for _, again := range twoKeys() {
				for _, written := range text(f.claims[f.line[2]]) {
					f.revoke(clientOf(2), signed(again, written), api.ErrGrant)
				}
			}
		}
	}
}

func TestRevokeOnOneServerAlone(t *testing.T) {
	f, other := newFamily(t), newFamily(t)
	f.revoke(clientOf(0), f.line[0], api.OK)
	if other.line[0] != f.line[0] {
		t.Fatalf("P2: the same calls gave other tokens")
	}
	other.mustBeGone()
	f.mustBeGone(slices.Concat(f.line, f.side)...)
}

func TestRevokeTakesNoOddText(t *testing.T) {
	f := newFamily(t)
	p := strings.Split(f.line[0], ".")
	for _, text := range oddTexts() {
		f.revoke(clientOf(0), text, api.ErrForm)
		f.revoke(clientOf(0), signed(twoKeys()[0], text), api.ErrForm)
		for _, token := range []string{p[0] + "." + text, p[0] + "." + text + "." + p[2], text + "." + p[1] + "." + p[2], p[0] + "." + p[1] + "." + text} {
			if errno := f.s.Revoke(clientOf(0), token); errno != api.ErrForm && errno != api.ErrSum {
				t.Errorf("P1: Revoke of %.60q = %d", token, errno)
			}
		}
		f.revoke(api.Login{Name: text, Secret: text}, f.line[0], api.ErrClient)
		f.revoke(api.Login{Name: text, Secret: clientOf(0).Secret}, f.line[0], api.ErrClient)
		f.revoke(api.Login{Name: clientOf(0).Name, Secret: text}, f.line[0], api.ErrClient)
	}
	f.mustBeGone()
}
