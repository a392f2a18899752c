package mandate

import (
	"slices"
	"strings"
	"testing"

	"mandate/api"
)

var half = api.Login{Name: "f", Secret: "secret of f"} // who may have a scope, but no target

// fourClients have actors as well; the order of their scopes and targets is not that of the tokens.
func fourClients() []api.Client {
	return []api.Client{
		{Name: top.Name, Secret: top.Secret, Scopes: []string{"r", "w", "x"}, Targets: []string{"t", "u"}, Actors: []string{"bob", "eve"}},
		{Name: low.Name, Secret: low.Secret, Scopes: []string{"y", "r", "w"}, Targets: []string{"v", "u"}, Actors: []string{"ann"}},
		{Name: odd.Name},
		{Name: half.Name, Secret: half.Secret, Scopes: []string{"w"}, Actors: []string{"joe"}},
	}
}

func serverOfFour(t *testing.T) *Server {
	t.Helper()
	s, errno := New(twoKeys(), fourClients())
	if s == nil || errno != api.OK {
		t.Fatalf("P5: New: %d", errno)
	}
	return s
}

// tokenOf answers a token of the first client.
func tokenOf(t *testing.T, s *Server, subject string, life int) string {
	t.Helper()
	token, errno := s.Consent(top, subject, []string{"x", "w", "r"}, []string{"u", "t"}, life)
	if errno != api.OK {
		t.Fatalf("P7: Consent: %d", errno)
	}
	return token
}

// says answers what tokenOf's token for ann says, or one that came of it, with these lists instead.
func says(id int, scopes, targets, actors string, expiry int) api.Claims {
	return api.Claims{Id: id, Subject: "ann", Scopes: strings.Fields(scopes), Targets: strings.Fields(targets), Actors: strings.Fields(actors), Expiry: expiry}
}

// mustExchange asks for a token of these claims.
func mustExchange(t *testing.T, s *Server, who api.Login, token string, w wish, want api.Claims) string {
	t.Helper()
	given, errno := s.Exchange(who, token, w.actor, w.scopes, w.targets, w.life)
	if errno != api.OK {
		t.Fatalf("P8: Exchange by %s for %+v: %d, want %+v", who.Name, w, errno, want)
	}
	mustLook(t, s, given, want)
	return given
}

// short answers as much of a wish as can be shown.
func short(w wish) wish {
	w.actor = w.actor[:min(len(w.actor), 60)]
	w.scopes, w.targets = w.scopes[:min(len(w.scopes), 7)], w.targets[:min(len(w.targets), 7)]
	return w
}

// mustNotExchange asks for an error, and nothing beside it.
func mustNotExchange(t *testing.T, s *Server, who api.Login, token string, w wish, want api.Errno) {
	t.Helper()
	if given, errno := s.Exchange(who, token, w.actor, w.scopes, w.targets, w.life); given != "" || errno != want {
		t.Errorf("P8: Exchange by %q of %.60q for %+v = %q, %d, want %d", who.Name, token, short(w), given, errno, want)
	}
}

func TestThirdExample(t *testing.T) {
	client := api.Client{Name: "c", Scopes: []string{"r", "w"}, Targets: []string{"t"}}
	s, errno := New([]api.Key{{Name: "k"}}, []api.Client{client})
	if errno != api.OK {
		t.Fatalf("P5: New: %d", errno)
	}
	c := api.Login{Name: "c"}
	first, errno := s.Consent(c, "ann", []string{"r", "w"}, []string{"t"}, 10)
	if errno != api.OK {
		t.Fatalf("P7: Consent: %d", errno)
	}
	second, errno := s.Exchange(c, first, "", []string{"r"}, nil, 100)
	if errno != api.OK {
		t.Fatalf("P8: Exchange: %d", errno)
	}
	for token, want := range map[string]api.Claims{first: says(1, "r w", "t", "", 10), second: says(2, "r", "t", "", 10)} {
		if got, ok, errno := s.Look(c, token); !same(got, want) || !ok || errno != api.OK {
			t.Errorf("P9: Look = %+v, %v, %d, want %+v", got, ok, errno, want)
		}
	}
	mustRevoke(t, s, c, first)
	if got, ok, errno := s.Look(c, second); !same(got, api.Claims{}) || ok || errno != api.OK {
		t.Errorf("P9: Look of what came of a token that was taken back = %+v, %v, %d", got, ok, errno)
	}
}

func TestExchangeWithoutAnActor(t *testing.T) {
	s := serverOfFour(t)
	ann := tokenOf(t, s, "ann", 100)
	for i, row := range []struct {
		scopes, targets []string
		want            api.Claims
	}{
		{nil, nil, says(0, "x w r", "u t", "", 50)},
		{[]string{}, []string{}, says(0, "x w r", "u t", "", 50)},
		{[]string{"r"}, nil, says(0, "r", "u t", "", 50)},
		{[]string{"r", "x", "w"}, []string{"t", "u"}, says(0, "r x w", "t u", "", 50)}, // in the order that is told
		{nil, []string{"t"}, says(0, "x w r", "t", "", 50)},
	} {
		row.want.Id = i + 2
		given := mustExchange(t, s, top, ann, wish{scopes: row.scopes, targets: row.targets, life: 50}, row.want)
		if given != signed(twoKeys()[0], plain(t, row.want)) {
			t.Errorf("P6: the token is %s", given)
		}
	}
	mustLook(t, s, ann, says(1, "x w r", "u t", "", 100))
}

func TestExchangeWithAnActor(t *testing.T) {
	s := serverOfFour(t)
	ann, bob, eve := tokenOf(t, s, "ann", 100), tokenOf(t, s, "bob", 100), tokenOf(t, s, "eve", 100)
	byTop := mustExchange(t, s, top, ann, wish{actor: bob, life: 50}, says(4, "x w r", "u t", "bob", 50))
	byLow := mustExchange(t, s, low, ann, wish{actor: bob, life: 50}, says(5, "w r", "u", "bob", 50))
	mustExchange(t, s, top, byTop, wish{life: 40}, says(6, "x w r", "u t", "bob", 40))
	deeper := mustExchange(t, s, low, byTop, wish{actor: eve, scopes: []string{"r", "w"}, life: 40}, says(7, "r w", "u", "eve bob", 40))
	mustExchange(t, s, top, deeper, wish{actor: ann, life: 30}, says(8, "r w", "u", "ann eve bob", 30))
	mustExchange(t, s, low, byLow, wish{actor: ann, life: 30}, says(9, "w r", "u", "ann bob", 30))
	mustLook(t, s, byTop, says(4, "x w r", "u t", "bob", 50))
	mustLook(t, s, deeper, says(7, "r w", "u", "eve bob", 40))
}

func TestHolderAndParentOfAnExchange(t *testing.T) {
	s := serverOfFour(t)
	ann, bob := tokenOf(t, s, "ann", 100), tokenOf(t, s, "bob", 100)
	mustExchange(t, s, low, ann, wish{actor: bob, life: 50}, says(3, "w r", "u", "bob", 50))
	g := s.known.Find(says(3, "w r", "u", "bob", 50))
	if g.Holder.Name != low.Name || g.Parent != s.known.Find(says(1, "x w r", "u t", "", 100)) || g.Revoked {
		t.Errorf("P8: what is known of the token: %+v", g)
	}
}

// The token that acts is asked for its Subject alone: not who holds it, nor what it may, nor how long it lives.
func TestAnActorIsItsSubject(t *testing.T) {
	s := serverOfFour(t)
	ann := tokenOf(t, s, "ann", 100)
	eve, errno := s.Consent(low, "eve", []string{"y"}, []string{"v"}, 5)
	if errno != api.OK {
		t.Fatalf("P7: Consent: %d", errno)
	}
	joint, errno := s.Exchange(low, eve, ann, nil, nil, 5) // eve's, with the actor ann
	if errno != api.OK {
		t.Fatalf("P8: Exchange: %d", errno)
	}
	for i, actor := range []string{eve, joint} {
		want := says(i+4, "x w r", "u t", "eve", 90)
		mustExchange(t, s, top, ann, wish{actor: actor, life: 90}, want)
	}
	mustTick(t, s, 5)
	mustNotLook(t, s, eve, api.ErrGrant)
	mustLook(t, s, signed(twoKeys()[0], plain(t, says(4, "x w r", "u t", "eve", 90))), says(4, "x w r", "u t", "eve", 90))
}

func TestATokenMayActForItself(t *testing.T) {
	s := serverOfFour(t)
	bob := tokenOf(t, s, "bob", 100)
	want := says(2, "x w r", "u t", "bob", 50)
	want.Subject = "bob"
	given := mustExchange(t, s, top, bob, wish{actor: bob, life: 50}, want)
	mustNotExchange(t, s, top, given, wish{actor: given, life: 50}, api.ErrDeep)
}

// Who may act hangs on the holder of the token, not on the one that asks, nor on the first of its parents.
func TestWhoMayAct(t *testing.T) {
	s := serverOfFour(t)
	ann, bob, eve, joe := tokenOf(t, s, "ann", 100), tokenOf(t, s, "bob", 100), tokenOf(t, s, "eve", 100), tokenOf(t, s, "joe", 100)
	ofLow := mustExchange(t, s, low, ann, wish{actor: bob, life: 50}, says(5, "w r", "u", "bob", 50))
	for _, who := range []api.Login{top, low, odd, half} {
		mustNotExchange(t, s, who, ann, wish{actor: ann, life: 50}, api.ErrActor)
		mustNotExchange(t, s, who, ann, wish{actor: joe, life: 50}, api.ErrActor)
		mustNotExchange(t, s, who, ofLow, wish{actor: eve, life: 50}, api.ErrActor)
		if who != top {
			mustNotExchange(t, s, who, ann, wish{life: 50}, api.ErrActor)
		}
		if who != low {
			mustNotExchange(t, s, who, ofLow, wish{life: 50}, api.ErrActor)
		}
	}
	mustExchange(t, s, low, ofLow, wish{life: 50}, says(6, "w r", "u", "bob", 50))
	mustExchange(t, s, top, ofLow, wish{actor: ann, life: 50}, says(7, "w r", "u", "ann bob", 50))
}

func TestExchangeRefusesInItsOrder(t *testing.T) {
	s := serverOfFour(t)
	ann, bob := tokenOf(t, s, "ann", 100), tokenOf(t, s, "bob", 100)
	acted := mustExchange(t, s, low, ann, wish{actor: bob, life: 100}, says(3, "w r", "u", "bob", 100))
	over := tokenOf(t, s, "bob", 1)
	mustTick(t, s, 1)
	for range api.MaxTokens - 5 {
		tokenOf(t, s, "ann", 100)
	}
	k := twoKeys()[0]
	text := plain(t, says(1, "x w r", "u t", "", 100))
	bad := []string{"", "\xff", "seventeen bytes.."}
	twice, seven := []string{"r", "r"}, []string{"1", "2", "3", "4", "5", "6", "7"}
	untaken := []struct {
		token string
		errno api.Errno
	}{
		{"no token", api.ErrForm},
		{ann + "=", api.ErrForm},
		{signed(api.Key{Name: "k3", Secret: k.Secret}, text), api.ErrKey},
		{signed(api.Key{Name: "k", Secret: "other"}, text), api.ErrSum},
		{signed(k, "no claims"), api.ErrForm},
		{signed(k, plain(t, says(1, "w r", "u t", "", 100))), api.ErrGrant},
		{over, api.ErrGrant},
	}
	refusals := []struct {
		who   api.Login
		token string
		w     wish
		errno api.Errno
	}{
		{api.Login{}, "no token", wish{"no token", bad, bad, 0}, api.ErrClient},
		{api.Login{Name: top.Name}, ann, wish{life: 1}, api.ErrClient},
		{api.Login{Name: top.Name, Secret: low.Secret}, ann, wish{life: 1}, api.ErrClient},
		{api.Login{Name: "nobody"}, ann, wish{life: 1}, api.ErrClient},
		{top, "", wish{life: 1}, api.ErrForm},
		{low, ann, wish{"", bad, bad, 0}, api.ErrActor},
		{low, ann, wish{ann, bad, bad, 0}, api.ErrActor},
		{top, ann, wish{ann, nil, nil, 1}, api.ErrActor},
		{top, acted, wish{"", nil, nil, 1}, api.ErrActor},
		{low, ann, wish{bob, bad, bad, 0}, api.ErrForm},
		{low, ann, wish{bob, bad[2:], nil, 1}, api.ErrForm},
		{low, ann, wish{bob, twice, nil, 1}, api.ErrForm},
		{top, ann, wish{"", seven, nil, 1}, api.ErrForm},
		{low, ann, wish{bob, []string{"x"}, bad[:1], 0}, api.ErrForm},
		{low, ann, wish{bob, []string{"x"}, bad[1:2], 0}, api.ErrForm},
		{low, ann, wish{bob, nil, twice, 0}, api.ErrForm},
		{odd, ann, wish{bob, nil, seven, 0}, api.ErrForm},
		{low, ann, wish{bob, []string{"x"}, []string{"t"}, 0}, api.ErrScope},
		{low, ann, wish{bob, []string{"r", "x"}, nil, 1}, api.ErrScope},
		{low, ann, wish{bob, []string{"x", "r"}, nil, 1}, api.ErrScope},
		{low, ann, wish{bob, []string{"y"}, nil, 1}, api.ErrScope},
		{low, ann, wish{bob, []string{"w", "y"}, nil, 1}, api.ErrScope},
		{low, ann, wish{bob, []string{"u"}, nil, 1}, api.ErrScope},
		{top, acted, wish{ann, []string{"x"}, nil, 1}, api.ErrScope},
		{odd, ann, wish{bob, nil, []string{"v"}, 0}, api.ErrScope},
		{odd, ann, wish{bob, []string{"r"}, nil, 1}, api.ErrScope},
		{low, ann, wish{bob, nil, []string{"t"}, 0}, api.ErrTarget},
		{low, ann, wish{bob, nil, []string{"v"}, 0}, api.ErrTarget},
		{low, ann, wish{bob, nil, []string{"u", "v"}, 1}, api.ErrTarget},
		{low, ann, wish{bob, nil, []string{"t", "u"}, 1}, api.ErrTarget},
		{low, ann, wish{bob, nil, []string{"r"}, 1}, api.ErrTarget},
		{top, acted, wish{ann, nil, []string{"t"}, 1}, api.ErrTarget},
		{half, ann, wish{bob, nil, nil, 0}, api.ErrTarget},
		{half, ann, wish{bob, []string{"w"}, []string{"u"}, 1}, api.ErrTarget},
		{low, ann, wish{bob, nil, nil, 0}, api.ErrLife},
		{low, ann, wish{bob, nil, nil, -1}, api.ErrLife},
		{low, ann, wish{bob, nil, nil, api.MaxLife + 1}, api.ErrLife},
		{top, ann, wish{"", nil, nil, -1 << 63}, api.ErrLife},
		{top, ann, wish{"", nil, nil, 1<<63 - 1}, api.ErrLife},
	}
	for range 2 { // with room for one more, and with none
		for _, u := range untaken {
			mustNotExchange(t, s, low, u.token, wish{"no token", bad, bad, 0}, u.errno)
			mustNotExchange(t, s, top, u.token, wish{"", nil, nil, 1}, u.errno)
			mustNotExchange(t, s, low, ann, wish{u.token, bad, bad, 0}, u.errno)
			mustNotExchange(t, s, top, ann, wish{u.token, nil, nil, 1}, u.errno)
		}
		for _, r := range refusals {
			mustNotExchange(t, s, r.who, r.token, r.w, r.errno)
		}
		if s.known.IsFull() {
			break
		}
		mustExchange(t, s, low, ann, wish{bob, nil, nil, 99}, says(api.MaxTokens, "w r", "u", "bob", 100)) // none took an Id
	}
	mustNotExchange(t, s, low, ann, wish{bob, nil, nil, 1}, api.ErrFull)
	mustNotExchange(t, s, top, ann, wish{"", nil, nil, 1}, api.ErrFull)
}

func TestExchangeWithMaxTokens(t *testing.T) {
	s := serverOfFour(t)
	ann, bob := tokenOf(t, s, "ann", 100), tokenOf(t, s, "bob", 100)
	acted := mustExchange(t, s, top, ann, wish{actor: bob, life: 100}, says(3, "x w r", "u t", "bob", 100))
	mustNotExchange(t, s, top, acted, wish{actor: bob, life: 1}, api.ErrDeep)
	for id := 4; id <= api.MaxTokens; id++ {
		mustExchange(t, s, top, ann, wish{life: 1}, says(id, "x w r", "u t", "", 1))
	}
	for _, now := range []int{0, 1, 99} { // those that are over are known still
		mustTick(t, s, now)
		mustNotExchange(t, s, top, ann, wish{life: 1}, api.ErrFull)
		mustNotExchange(t, s, top, ann, wish{life: 0}, api.ErrLife)
		mustNotExchange(t, s, top, acted, wish{actor: bob, life: 1}, api.ErrFull) // named ahead of ErrDeep
	}
	mustTick(t, s, 100)
	mustNotExchange(t, s, top, ann, wish{life: 1}, api.ErrGrant)
}

func TestExchangeGivesNoLaterExpiry(t *testing.T) {
	s := serverOfFour(t)
	ann := tokenOf(t, s, "ann", 100)
	for i, row := range []struct{ now, life, expiry int }{{0, 1, 1}, {0, 99, 99}, {0, 100, 100}, {0, 101, 100}, {30, 69, 99}, {30, 70, 100}, {30, 71, 100}, {99, 1, 100}, {99, api.MaxLife, 100}} {
		mustTick(t, s, row.now)
		mustExchange(t, s, top, ann, wish{life: row.life}, says(i+2, "x w r", "u t", "", row.expiry))
	}
}

func TestExchangeOfAnExchangeGivesNoLaterExpiry(t *testing.T) {
	s := serverOfFour(t)
	ann, bob := tokenOf(t, s, "ann", 100), tokenOf(t, s, "bob", 100)
	child := mustExchange(t, s, top, ann, wish{life: 20}, says(3, "x w r", "u t", "", 20))
	mustTick(t, s, 10)
	mustExchange(t, s, top, child, wish{life: 90}, says(4, "x w r", "u t", "", 20))
	mustExchange(t, s, low, child, wish{actor: bob, life: 9}, says(5, "w r", "u", "bob", 19))
	mustTick(t, s, 20)
	mustNotExchange(t, s, top, child, wish{life: 1}, api.ErrGrant)
	mustExchange(t, s, top, ann, wish{life: 1}, says(6, "x w r", "u t", "", 21))
}

// ErrLife is that of Consent: the Expiry of the token does not help.
func TestExchangeNearTheEndOfTime(t *testing.T) {
	s := serverOfFour(t)
	mustTick(t, s, api.MaxNumber-10)
	ann := tokenOf(t, s, "ann", 5)
	mustNotExchange(t, s, top, ann, wish{life: 11}, api.ErrLife)
	mustNotExchange(t, s, top, ann, wish{life: api.MaxLife}, api.ErrLife)
	mustExchange(t, s, top, ann, wish{life: 10}, says(2, "x w r", "u t", "", api.MaxNumber-5))
}

// sixActors answers a server of a client for which six may act, and one token more of each of these names.
func sixActors(t *testing.T, names ...string) (*Server, []string) {
	t.Helper()
	clients := fourClients()
	clients[0].Actors = []string{"1", "2", "3", "4", "5", "6"}
	clients[1].Actors = []string{"7"}
	s, errno := New(twoKeys(), clients)
	if errno != api.OK {
		t.Fatalf("P5: New: %d", errno)
	}
	var tokens []string
	for _, name := range names {
		tokens = append(tokens, tokenOf(t, s, name, 100))
	}
	return s, tokens
}

func TestExchangeWithMaxListActors(t *testing.T) {
	s, actors := sixActors(t, "1", "2", "3", "4", "5", "6", "7")
	token := tokenOf(t, s, "ann", 100)
	list := ""
	for i := range api.MaxList - 1 {
		list = string(rune('1'+i)) + " " + list
		token = mustExchange(t, s, top, token, wish{actor: actors[i], life: 100}, says(9+i, "x w r", "u t", list, 100))
		mustNotExchange(t, s, top, token, wish{actor: actors[i], life: 100}, api.ErrDeep) // the first of them
		mustNotExchange(t, s, top, token, wish{actor: actors[0], life: 100}, api.ErrDeep) // the last of them
	}
	token = mustExchange(t, s, low, token, wish{actor: actors[5], life: 100}, says(14, "w r", "u", "6 "+list, 100))
	mustNotExchange(t, s, low, token, wish{actor: actors[6], life: 100}, api.ErrDeep) // none of them, but one too many
	mustNotExchange(t, s, low, token, wish{actor: actors[6], life: 0}, api.ErrLife)
	mustNotExchange(t, s, odd, token, wish{actor: actors[6], life: 1}, api.ErrScope)
	mustNotExchange(t, s, low, token, wish{actor: actors[0], life: 100}, api.ErrActor)
	mustExchange(t, s, low, token, wish{life: 100}, says(15, "w r", "u", "6 "+list, 100)) // without an actor there is none too many
}

func TestExchangeTakesWhatIsAliveAlone(t *testing.T) {
	for _, revoked := range []int{1, 2, 3} {
		s := serverOfFour(t)
		claims := []api.Claims{says(1, "x w r", "u t", "", 100), says(2, "x w r", "u t", "", 90), says(3, "x w r", "u t", "", 80)}
		line := []string{tokenOf(t, s, "ann", 100)}
		for _, want := range claims[1:] {
			line = append(line, mustExchange(t, s, top, line[len(line)-1], wish{life: want.Expiry}, want))
		}
		eve := tokenOf(t, s, "eve", 100)
		mustRevoke(t, s, top, line[revoked-1])
		for i, token := range line {
			if i+1 >= revoked {
				mustNotExchange(t, s, top, token, wish{life: 1}, api.ErrGrant)
				mustNotExchange(t, s, top, token, wish{actor: eve, life: 1}, api.ErrGrant)
				mustNotExchange(t, s, top, eve, wish{actor: token, life: 1}, api.ErrGrant)
				continue
			}
			mustNotExchange(t, s, top, eve, wish{actor: token, life: 1}, api.ErrActor)
			mustExchange(t, s, top, token, wish{life: 1}, says(5+i, "x w r", "u t", "", 1))
		}
	}
}

func TestExchangeAndTheKeys(t *testing.T) {
	s := serverOfFour(t)
	ann, bob := tokenOf(t, s, "ann", 100), tokenOf(t, s, "bob", 100)
	if errno := s.Use("k2"); errno != api.OK {
		t.Fatalf("P5: Use: %d", errno)
	}
	want := says(3, "w r", "u", "bob", 50)
	if given := mustExchange(t, s, low, ann, wish{actor: bob, life: 50}, want); given != signed(twoKeys()[1], plain(t, want)) {
		t.Errorf("P5: not signed with k2: %s", given)
	}
	again := signed(twoKeys()[1], " "+strings.ReplaceAll(plain(t, says(1, "x w r", "u t", "", 100)), ",", " , ")) // the same, written otherwise
	mustExchange(t, s, low, again, wish{actor: bob, life: 50}, says(4, "w r", "u", "bob", 50))
}

func TestExchangeTakesNoOddText(t *testing.T) {
	s := serverOfFour(t)
	ann := tokenOf(t, s, "ann", 10)
	for _, text := range oddTexts() {
		if text != "" { // an actor that is empty is none
			mustNotExchange(t, s, top, ann, wish{actor: text, life: 1}, api.ErrForm)
		}
		mustNotExchange(t, s, top, text, wish{life: 1}, api.ErrForm)
		mustNotExchange(t, s, top, signed(twoKeys()[0], text), wish{life: 1}, api.ErrForm)
		mustNotExchange(t, s, top, ann, wish{actor: signed(twoKeys()[0], text), life: 1}, api.ErrForm)
		mustNotExchange(t, s, api.Login{Name: text, Secret: text}, ann, wish{life: 1}, api.ErrClient)
		mustNotExchange(t, s, top, ann, wish{scopes: []string{text, text}, life: 1}, api.ErrForm)
		mustNotExchange(t, s, top, ann, wish{targets: []string{text, text}, life: 1}, api.ErrForm)
	}
	huge := make([]string, 100000)
	mustNotExchange(t, s, top, ann, wish{scopes: huge, life: 1}, api.ErrForm)
	mustNotExchange(t, s, top, ann, wish{targets: huge, life: 1}, api.ErrForm)
	mustExchange(t, s, top, ann, wish{life: 1}, says(2, "x w r", "u t", "", 1))
}

func TestExchangeKeepsNoList(t *testing.T) {
	s := serverOfFour(t)
	ann := tokenOf(t, s, "ann", 100)
	for i, life := range []int{0, 10} { // refused, and not
		scopes, scopeRoom := withRoom("r", "x")
		targets, targetRoom := withRoom("t", "u")
		token, errno := s.Exchange(top, ann, "", scopes, targets, life)
		if errno != []api.Errno{api.ErrLife, api.OK}[i] || !slices.Equal(scopeRoom, []string{"r", "x", "behind", "farther behind"}) || !slices.Equal(targetRoom, []string{"t", "u", "behind", "farther behind"}) {
			t.Errorf("P2: Exchange: %d, %q, %q", errno, scopeRoom, targetRoom)
		}
		spoil(scopes)
		spoil(targets)
		if errno == api.OK {
			mustLook(t, s, token, says(2, "r x", "t u", "", 10))
		}
	}
	scopes, scopeRoom := withRoom() // none told, but room behind
	if _, errno := s.Exchange(top, ann, "", scopes, scopes, 10); errno != api.OK || !slices.Equal(scopeRoom, []string{"behind", "farther behind"}) {
		t.Errorf("P2: Exchange: %d, %q", errno, scopeRoom)
	}
}

func TestNewKeepsNoListOfActors(t *testing.T) {
	clients := fourClients()
	s, errno := New(twoKeys(), clients)
	if errno != api.OK {
		t.Fatalf("P5: New: %d", errno)
	}
	spoil(clients[0].Actors)
	ann, bob, spoilt := tokenOf(t, s, "ann", 100), tokenOf(t, s, "bob", 100), tokenOf(t, s, "spoilt", 100)
	mustNotExchange(t, s, top, ann, wish{actor: spoilt, life: 1}, api.ErrActor)
	mustExchange(t, s, top, ann, wish{actor: bob, life: 1}, says(4, "x w r", "u t", "bob", 1))
}

func TestListsOfATokenAndItsParentShareNothing(t *testing.T) {
	s := serverOfFour(t)
	ann, bob, eve := tokenOf(t, s, "ann", 100), tokenOf(t, s, "bob", 100), tokenOf(t, s, "eve", 100)
	want := []api.Claims{says(1, "x w r", "u t", "", 100), says(4, "x w r", "u t", "bob", 50), says(5, "x w r", "u t", "eve bob", 50), says(6, "x w r", "u t", "bob", 50)}
	tokens := []string{ann}
	tokens = append(tokens, mustExchange(t, s, top, ann, wish{actor: bob, life: 50}, want[1]))
	tokens = append(tokens, mustExchange(t, s, top, tokens[1], wish{actor: eve, life: 50}, want[2]))
	tokens = append(tokens, mustExchange(t, s, top, tokens[1], wish{life: 50}, want[3]))
	for _, token := range tokens {
		for which := range 3 {
			c, _, _ := s.Look(top, token)
			lists, others := [][]string{c.Scopes, c.Targets, c.Actors}, [][]string{}
			for _, list := range lists {
				others = append(others, slices.Clone(list))
			}
			spoil(lists[which])
			for i := range lists {
				if i != which && !slices.Equal(lists[i], others[i]) {
					t.Errorf("P2: list %d was written into by list %d", i, which)
				}
			}
			for i := range tokens {
				mustLook(t, s, tokens[i], want[i])
			}
		}
	}
}
