package mandate

import (
	"slices"
	"strconv"
	"strings"
	"testing"

	"mandate/api"
)

var (
	top = api.Login{Name: "c", Secret: "secret of c"} // who may all
	low = api.Login{Name: "d", Secret: "secret of d"} // who may nearly nothing
	odd = api.Login{Name: "e"}                        // who may nothing
)

func twoKeys() []api.Key {
	return []api.Key{{Name: "k", Secret: "first"}, {Name: "k2", Secret: "second"}}
}

func threeClients() []api.Client {
	return []api.Client{
		{Name: top.Name, Secret: top.Secret, Scopes: []string{"r", "w", "x"}, Targets: []string{"t", "u"}, Actors: []string{"bob"}},
		{Name: low.Name, Secret: low.Secret, Scopes: []string{"r"}, Targets: []string{"u"}},
		{Name: odd.Name},
	}
}

func newServer(t *testing.T) *Server {
	t.Helper()
	s, errno := New(twoKeys(), threeClients())
	if s == nil || errno != api.OK {
		t.Fatalf("P5: New: %d", errno)
	}
	return s
}

// signed answers a token as the document describes it.
func signed(key api.Key, text string) string {
	parts := Pack(`{"alg":"HS256","kid":"`+key.Name+`"}`) + "." + Pack(text)
	mac := Mac(key.Secret, parts)
	return parts + "." + Pack(string(mac[:]))
}

// plain answers the plain text of claims.
func plain(t *testing.T, c api.Claims) string {
	t.Helper()
	text, errno := Print(c)
	if errno != api.OK {
		t.Fatalf("P4: Print(%+v): %d", c, errno)
	}
	return text
}

// mustConsent answers a token of the first client.
func mustConsent(t *testing.T, s *Server, life int) string {
	t.Helper()
	token, errno := s.Consent(top, "ann", []string{"w", "r"}, []string{"t"}, life)
	if errno != api.OK {
		t.Fatalf("P7: Consent: %d", errno)
	}
	return token
}

// given is what mustConsent's token says.
func given(id, expiry int) api.Claims {
	return api.Claims{Id: id, Subject: "ann", Scopes: []string{"w", "r"}, Targets: []string{"t"}, Expiry: expiry}
}

// mustLook asks for the claims of a token that is taken.
func mustLook(t *testing.T, s *Server, token string, want api.Claims) {
	t.Helper()
	if c, ok, errno := s.Look(odd, token); !same(c, want) || !ok || errno != api.OK {
		t.Errorf("P9: Look = %+v, %v, %d, want %+v", c, ok, errno, want)
	}
}

// mustNotLook asks for nothing of a token that is not taken, for this reason.
func mustNotLook(t *testing.T, s *Server, token string, reason api.Errno) {
	t.Helper()
	if c, ok, errno := s.Look(odd, token); !same(c, api.Claims{}) || ok || errno != api.OK {
		t.Errorf("P9: Look(%.200q) = %+v, %v, %d", token, c, ok, errno)
	}
	if g, errno := s.take(token); g != nil || errno != reason {
		t.Errorf("P6: taking %.200q: %v, %d, want %d", token, g, errno, reason)
	}
}

func mustTick(t *testing.T, s *Server, now int) {
	t.Helper()
	if errno := s.Tick(now); errno != api.OK {
		t.Errorf("P5: Tick(%d): %d", now, errno)
	}
}

func TestNewRefuses(t *testing.T) {
	long := strings.Repeat("x", api.MaxSecret+1)
	for i, row := range []struct {
		keys    []api.Key
		clients []api.Client
	}{
		{nil, nil},
		{nil, threeClients()},
		{[]api.Key{{Name: "K"}}, nil},
		{[]api.Key{{Name: "k"}, {Name: "k"}}, nil},
		{[]api.Key{{Name: "k", Secret: long}}, nil},
		{make([]api.Key, api.MaxKeys+1), nil},
		{make([]api.Key, 100000), make([]api.Client, 100000)},
		{twoKeys(), make([]api.Client, api.MaxClients+1)},
		{twoKeys(), []api.Client{{Name: "a b"}}},
		{twoKeys(), []api.Client{{Name: "c"}, {Name: "c"}}},
		{twoKeys(), []api.Client{{Name: "c", Secret: long}}},
		{twoKeys(), []api.Client{{Name: "c", Scopes: []string{"a", "a"}}}},
		{twoKeys(), []api.Client{{Name: "c", Targets: []string{""}}}},
		{twoKeys(), []api.Client{{Name: "c", Actors: []string{"\xff"}}}},
	} {
		if s, errno := New(row.keys, row.clients); s != nil || errno != api.ErrArg {
			t.Errorf("P5: case %d: New = %v, %d", i, s, errno)
		}
	}
}

func TestNewTakes(t *testing.T) {
	var keys []api.Key
	var clients []api.Client
	for i := range api.MaxKeys {
		keys = append(keys, api.Key{Name: "n" + strconv.Itoa(i), Secret: strings.Repeat("\x00", api.MaxSecret)})
		clients = append(clients, api.Client{Name: "n" + strconv.Itoa(i), Actors: []string{"1", "2", "3", "4", "5", "6"}})
	}
	for i, n := range []int{0, 1, api.MaxClients} {
		if s, errno := New(keys, clients[:n]); s == nil || errno != api.OK {
			t.Errorf("P5: case %d: New = %v, %d", i, s, errno)
		}
	}
}

func TestTick(t *testing.T) {
	s := newServer(t)
	for _, step := range []struct {
		now   int
		errno api.Errno
	}{{-1, api.ErrArg}, {0, api.OK}, {5, api.OK}, {4, api.ErrArg}, {5, api.OK}, {-1 << 63, api.ErrArg}, {1<<63 - 1, api.ErrArg}, {api.MaxNumber + 1, api.ErrArg}, {6, api.OK}, {api.MaxNumber, api.OK}, {api.MaxNumber - 1, api.ErrArg}, {api.MaxNumber, api.OK}} {
		if errno := s.Tick(step.now); errno != step.errno {
			t.Errorf("P5: Tick(%d) = %d, want %d", step.now, errno, step.errno)
		}
	}
}

func TestARefusedTickLeavesTheTime(t *testing.T) {
	s := newServer(t)
	token := mustConsent(t, s, 10)
	for _, now := range []int{-1, api.MaxNumber + 1} {
		if errno := s.Tick(now); errno != api.ErrArg {
			t.Errorf("P5: Tick(%d): %d", now, errno)
		}
	}
	mustLook(t, s, token, given(1, 10))
	mustTick(t, s, 3)
	s.Tick(1)
	mustLook(t, s, mustConsent(t, s, 10), given(2, 13))
}

func TestUse(t *testing.T) {
	s := newServer(t)
	keys := twoKeys()
	first := mustConsent(t, s, 10)
	if errno := s.Use("k3"); errno != api.ErrKey {
		t.Errorf("P5: Use(k3): %d", errno)
	}
	second := mustConsent(t, s, 10)
	if errno := s.Use("k2"); errno != api.OK {
		t.Errorf("P5: Use(k2): %d", errno)
	}
	third := mustConsent(t, s, 10)
	for i, token := range []string{first, second, third} {
		key := keys[i/2]
		if want := signed(key, plain(t, given(i+1, 10))); token != want {
			t.Errorf("P6: token %d is %s, want %s", i+1, token, want)
		}
		mustLook(t, s, token, given(i+1, 10))
	}
	for _, name := range []string{"", "K", "k ", "\xff", strings.Repeat("k", 100000)} {
		if errno := s.Use(name); errno != api.ErrKey {
			t.Errorf("P5: Use(%.40q): %d", name, errno)
		}
	}
	s.Use("k")
	if token := mustConsent(t, s, 10); token != signed(keys[0], plain(t, given(4, 10))) {
		t.Errorf("P5: not signed with k again: %s", token)
	}
}

func TestTakingInItsOrder(t *testing.T) {
	s := newServer(t)
	k := twoKeys()[0]
	token := mustConsent(t, s, 10)
	text := plain(t, given(1, 10))
	unknown := api.Key{Name: "k3", Secret: k.Secret}
	other := api.Key{Name: "k", Secret: "other"}
	mustNotLook(t, s, "", api.ErrForm)
	mustNotLook(t, s, token+".", api.ErrForm)
	mustNotLook(t, s, token+"=", api.ErrForm)
	mustNotLook(t, s, signed(api.Key{Name: "K", Secret: k.Secret}, text), api.ErrForm)
	mustNotLook(t, s, signed(unknown, text)+"=", api.ErrForm)
	mustNotLook(t, s, signed(unknown, text), api.ErrKey)
	mustNotLook(t, s, signed(unknown, text)+"AAAA", api.ErrKey)
	mustNotLook(t, s, signed(unknown, "no claims"), api.ErrKey)
	mustNotLook(t, s, signed(other, text), api.ErrSum)
	mustNotLook(t, s, signed(other, "no claims"), api.ErrSum)
	mustNotLook(t, s, signed(other, plain(t, given(2, 10))), api.ErrSum)
	for _, bad := range []string{"", "no claims", "{}", text + "x", strings.Replace(text, "10", "010", 1), strings.Replace(text, "ann", "", 1)} {
		mustNotLook(t, s, signed(k, bad), api.ErrForm)
	}
	mustNotLook(t, s, signed(k, plain(t, given(2, 10))), api.ErrGrant)
	mustLook(t, s, token, given(1, 10))
	mustTick(t, s, 10)
	mustNotLook(t, s, token, api.ErrGrant)
	mustNotLook(t, s, signed(other, text), api.ErrSum)
	mustNotLook(t, s, signed(k, text+"x"), api.ErrForm)
}

func TestATokenIsTakenHoweverItsClaimsAreWritten(t *testing.T) {
	s := newServer(t)
	mustConsent(t, s, 10)
	text := plain(t, given(1, 10))
	for _, key := range twoKeys() {
		for _, again := range []string{text, " " + text + "\n", strings.ReplaceAll(text, ",", "\t,\r"), strings.Replace(text, "ann", `\u0061nn`, 1), `{"exp":10,` + strings.Replace(text[1:], `,"exp":10`, "", 1)} {
			mustLook(t, s, signed(key, again), given(1, 10))
		}
	}
}

// MaxText is a limit of Parse alone: a text of claims is one, however long it is.
func TestATokenWithALongTextIsTaken(t *testing.T) {
	s := newServer(t)
	mustConsent(t, s, 10)
	text := plain(t, given(1, 10))
	for _, length := range []int{api.MaxText, api.MaxText + 1, 100 * api.MaxText} {
		blanks := strings.Repeat(" ", length-len(text))
		mustLook(t, s, signed(twoKeys()[0], text+blanks), given(1, 10))
		mustLook(t, s, signed(twoKeys()[0], "{"+blanks+text[1:]), given(1, 10))
		mustNotLook(t, s, signed(twoKeys()[0], text+blanks+"x"), api.ErrForm)
	}
}

func TestOtherClaimsAreNotTaken(t *testing.T) {
	s := newServer(t)
	mustConsent(t, s, 10)
	mustConsent(t, s, 20)
	for i, change := range []func(c *api.Claims){
		func(c *api.Claims) { c.Id = 0 },
		func(c *api.Claims) { c.Id = 2 },
		func(c *api.Claims) { c.Id = 3 },
		func(c *api.Claims) { c.Id = api.MaxNumber },
		func(c *api.Claims) { c.Subject = "bob" },
		func(c *api.Claims) { c.Scopes = []string{"r", "w"} },
		func(c *api.Claims) { c.Scopes = []string{"w", "r", "x"} },
		func(c *api.Claims) { c.Targets = nil },
		func(c *api.Claims) { c.Targets = []string{"u"} },
		func(c *api.Claims) { c.Actors = []string{"bob"} },
		func(c *api.Claims) { c.Expiry = 11 },
		func(c *api.Claims) { c.Expiry = 9 },
		func(c *api.Claims) { c.Expiry = 20 },
	} {
		c := given(1, 10)
		change(&c)
		t.Log("change", i)
		mustNotLook(t, s, signed(twoKeys()[0], plain(t, c)), api.ErrGrant)
	}
	mustLook(t, s, signed(twoKeys()[0], plain(t, given(1, 10))), given(1, 10))
}

func TestWhatIsNotAliveIsNotTaken(t *testing.T) {
	s := newServer(t)
	first, second := mustConsent(t, s, 10), mustConsent(t, s, 20)
	mustTick(t, s, 9)
	mustLook(t, s, first, given(1, 10))
	mustTick(t, s, 10)
	mustNotLook(t, s, first, api.ErrGrant)
	mustLook(t, s, second, given(2, 20))
	child := mustExchange(t, s, top, second, wish{life: 10}, given(3, 20))
	mustRevoke(t, s, top, second)
	mustNotLook(t, s, second, api.ErrGrant)
	mustNotLook(t, s, child, api.ErrGrant)
}

func TestATokenOfAnotherServerIsNotTaken(t *testing.T) {
	s, other := newServer(t), newServer(t)
	token := mustConsent(t, s, 10)
	mustNotLook(t, other, token, api.ErrGrant)
	mustLook(t, s, token, given(1, 10))
}

func TestConsentInItsOrder(t *testing.T) {
	s := newServer(t)
	for range api.MaxTokens - 1 {
		mustConsent(t, s, 10)
	}
	r, u, seven := []string{"r"}, []string{"u"}, []string{"1", "2", "3", "4", "5", "6", "7"}
	refusals := []struct {
		who             api.Login
		subject         string
		scopes, targets []string
		life            int
		errno           api.Errno
	}{
		{api.Login{}, "", nil, nil, 0, api.ErrClient},
		{api.Login{Name: low.Name}, "ann", r, u, 1, api.ErrClient},
		{api.Login{Name: low.Name, Secret: top.Secret}, "ann", r, u, 1, api.ErrClient},
		{api.Login{Name: "nobody", Secret: low.Secret}, "ann", r, u, 1, api.ErrClient},
		{low, "", nil, nil, 0, api.ErrForm},
		{low, "\xff", r, u, 1, api.ErrForm},
		{low, "seventeen bytes..", r, u, 1, api.ErrForm},
		{low, "ann", seven, nil, 0, api.ErrForm},
		{low, "ann", []string{"r", "r"}, u, 1, api.ErrForm},
		{low, "ann", nil, []string{""}, 0, api.ErrForm},
		{low, "ann", []string{"x"}, []string{"t", "t"}, 0, api.ErrForm},
		{low, "ann", nil, nil, 0, api.ErrScope},
		{low, "ann", []string{}, u, 1, api.ErrScope},
		{low, "ann", []string{"r", "w"}, nil, 0, api.ErrScope},
		{low, "ann", []string{"w", "r"}, u, 1, api.ErrScope},
		{odd, "ann", r, u, 1, api.ErrScope},
		{low, "ann", r, nil, 0, api.ErrTarget},
		{low, "ann", r, []string{"u", "t"}, 0, api.ErrTarget},
		{low, "ann", r, []string{"r"}, 1, api.ErrTarget},
		{low, "ann", r, u, 0, api.ErrLife},
		{low, "ann", r, u, -1, api.ErrLife},
		{low, "ann", r, u, api.MaxLife + 1, api.ErrLife},
		{low, "ann", r, u, -1 << 63, api.ErrLife},
		{low, "ann", r, u, 1<<63 - 1, api.ErrLife},
	}
	for range 2 { // with room for one more, and with none
		for _, c := range refusals {
			if token, errno := s.Consent(c.who, c.subject, c.scopes, c.targets, c.life); token != "" || errno != c.errno {
				t.Errorf("P7: Consent(%v, %q, %q, %q, %d) = %q, %d, want %d", c.who, c.subject, c.scopes, c.targets, c.life, token, errno, c.errno)
			}
		}
		mustTick(t, s, 5)
		if s.known.IsFull() {
			break
		}
		mustLook(t, s, mustConsent(t, s, 10), given(api.MaxTokens, 15))
	}
	for _, now := range []int{5, 15, 1000} { // those that are over are known still
		mustTick(t, s, now)
		if token, errno := s.Consent(low, "ann", r, u, 1); token != "" || errno != api.ErrFull {
			t.Errorf("P7: a token too many, at %d: %q, %d", now, token, errno)
		}
	}
}

func TestConsentGives(t *testing.T) {
	s := newServer(t)
	mustTick(t, s, 1000)
	for i, c := range []struct {
		who             api.Login
		subject         string
		scopes, targets []string
		life            int
	}{
		{top, "ann", []string{"x", "r", "w"}, []string{"u", "t"}, 1},
		{low, "sixteen bytes...", []string{"r"}, []string{"u"}, api.MaxLife},
		{top, "\"\\\x00é", []string{"w"}, []string{"t"}, 50},
	} {
		token, errno := s.Consent(c.who, c.subject, c.scopes, c.targets, c.life)
		want := api.Claims{Id: i + 1, Subject: c.subject, Scopes: c.scopes, Targets: c.targets, Expiry: 1000 + c.life}
		if errno != api.OK || token != signed(twoKeys()[0], plain(t, want)) {
			t.Errorf("P7: Consent %d = %s, %d", i, token, errno)
		}
		mustLook(t, s, token, want)
		g := s.known.Find(want)
		if g == nil || g.Holder.Name != c.who.Name || g.Parent != nil {
			t.Errorf("P7: what is known of token %d: %+v", i, g)
		}
	}
}

func TestConsentNearTheEndOfTime(t *testing.T) {
	s := newServer(t)
	mustTick(t, s, api.MaxNumber-10)
	if token, errno := s.Consent(top, "ann", []string{"r"}, []string{"t"}, 11); token != "" || errno != api.ErrLife {
		t.Errorf("P7: beyond the end of time: %q, %d", token, errno)
	}
	token := mustConsent(t, s, 10)
	mustLook(t, s, token, given(1, api.MaxNumber))
	mustTick(t, s, api.MaxNumber)
	mustNotLook(t, s, token, api.ErrGrant)
	if token, errno := s.Consent(top, "ann", []string{"r"}, []string{"t"}, 1); token != "" || errno != api.ErrLife {
		t.Errorf("P7: at the end of time: %q, %d", token, errno)
	}
}

func TestARefusedConsentTakesNoId(t *testing.T) {
	s := newServer(t)
	for range 3 {
		s.Consent(top, "ann", []string{"y"}, []string{"t"}, 1)
		s.Consent(top, "ann", []string{"r"}, []string{"t"}, 0)
	}
	mustLook(t, s, mustConsent(t, s, 10), given(1, 10))
}

func TestLookAsksForALogin(t *testing.T) {
	s := newServer(t)
	token := mustConsent(t, s, 10)
	for _, who := range []api.Login{{}, {Name: "c"}, {Name: "c", Secret: low.Secret}, {Name: "C", Secret: top.Secret}, {Secret: top.Secret}} {
		for _, x := range []string{token, "", "no token"} {
			if c, ok, errno := s.Look(who, x); !same(c, api.Claims{}) || ok || errno != api.ErrClient {
				t.Errorf("P9: Look(%v) = %+v, %v, %d", who, c, ok, errno)
			}
		}
	}
	for _, who := range []api.Login{top, low, odd} { // whoever holds it
		if c, ok, errno := s.Look(who, token); !same(c, given(1, 10)) || !ok || errno != api.OK {
			t.Errorf("P9: Look(%v) = %+v, %v, %d", who, c, ok, errno)
		}
	}
}

func TestTheServerTakesNoOddText(t *testing.T) {
	s := newServer(t)
	token := mustConsent(t, s, 10)
	p := strings.Split(token, ".")
	for _, text := range oddTexts() {
		for _, token := range []string{text, p[0] + "." + text, p[0] + "." + text + "." + p[2], text + "." + p[1] + "." + p[2], p[0] + "." + p[1] + "." + text, signed(twoKeys()[0], text)} {
			if c, ok, errno := s.Look(top, token); !same(c, api.Claims{}) || ok || errno != api.OK {
				t.Errorf("P1: Look(%.80q) = %+v, %v, %d", token, c, ok, errno)
			}
		}
		s.Use(text)
		s.Consent(api.Login{Name: text, Secret: text}, text, []string{text}, []string{text}, 1)
		s.Consent(top, "ann", []string{"r"}, []string{text}, 1)
		s.Consent(top, "ann", []string{text, text}, []string{"t"}, 1)
	}
	mustLook(t, s, token, given(1, 10))
}

func TestNewKeepsNoList(t *testing.T) {
	keys, clients := twoKeys(), threeClients()
	scopes, scopeRoom := withRoom("r", "w")
	clients[0].Scopes = scopes
	s, errno := New(keys, clients)
	if errno != api.OK || !slices.Equal(scopeRoom, []string{"r", "w", "behind", "farther behind"}) {
		t.Errorf("P2: New: %d, %q", errno, scopeRoom)
	}
	for i := range clients {
		spoil(clients[i].Scopes)
		spoil(clients[i].Targets)
		clients[i] = api.Client{Name: "spoilt"}
	}
	keys[0], keys[1] = api.Key{}, api.Key{}
	if token := mustConsent(t, s, 10); token != signed(twoKeys()[0], plain(t, given(1, 10))) {
		t.Errorf("P2: Consent = %s", token)
	}
	if _, errno := s.Consent(top, "ann", []string{"spoilt"}, []string{"t"}, 10); errno != api.ErrScope {
		t.Errorf("P2: a scope that was written into the list later: %d", errno)
	}
}

func TestConsentKeepsNoList(t *testing.T) {
	s := newServer(t)
	scopes, scopeRoom := withRoom("w", "r")
	targets, targetRoom := withRoom("t")
	token, errno := s.Consent(top, "ann", scopes, targets, 10)
	if errno != api.OK || !slices.Equal(scopeRoom, []string{"w", "r", "behind", "farther behind"}) || !slices.Equal(targetRoom, []string{"t", "behind", "farther behind"}) {
		t.Errorf("P2: Consent: %d, %q, %q", errno, scopeRoom, targetRoom)
	}
	spoil(scopes)
	spoil(targets)
	mustLook(t, s, token, given(1, 10))
}

func TestListsOfLookShareNothing(t *testing.T) {
	s := newServer(t)
	token := mustConsent(t, s, 10)
	for which := range 2 {
		c, _, _ := s.Look(top, token)
		lists := [][]string{c.Scopes, c.Targets}
		spoil(lists[which])
		if want := [][]string{{"w", "r"}, {"t"}}; !slices.Equal(lists[1-which], want[1-which]) {
			t.Errorf("P2: list %d was written into by the other: %q", 1-which, lists[1-which])
		}
		mustLook(t, s, token, given(1, 10))
	}
}

func TestServersShareNothing(t *testing.T) {
	s, other := newServer(t), newServer(t)
	mustConsent(t, other, 10)
	mustTick(t, other, 7)
	other.Use("k2")
	if token := mustConsent(t, s, 10); token != signed(twoKeys()[0], plain(t, given(1, 10))) {
		t.Errorf("P2: Consent = %s", token)
	}
}
