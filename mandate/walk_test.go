package mandate

import (
	"math/rand/v2"
	"slices"
	"strings"
	"testing"

	"mandate/api"
)

// walk does calls by chance (always the same ones) and holds the answers against what the document's words ask,
// told here once more without any of the program's parts.
type walk struct {
	t       *testing.T
	chance  *rand.Rand
	s       *Server
	now     int
	clients []api.Client
	known   []record
	seen    counts // of Exchange
	revoked counts // of Revoke
}

// counts says how often each error was answered.
type counts [13]int

func (c *counts) add(more counts) {
	for i, n := range more {
		c[i] += n
	}
}

// mustBeMet asks for walks that have met each of these answers.
func (c *counts) mustBeMet(t *testing.T, call string, answers ...api.Errno) {
	t.Helper()
	for _, errno := range answers {
		if c[errno] < 100 {
			t.Errorf("the walks met the answer %d of %s only %d times", errno, call, c[errno])
		}
	}
}

// record is what a walk knows of a token.
type record struct {
	token   string
	claims  api.Claims
	holder  int // of the clients
	parent  int // of the records; -1: none
	revoked bool
}

func newWalk(t *testing.T, seed uint64) *walk {
	w := &walk{t: t, chance: rand.New(rand.NewPCG(seed, 8))}
	for _, name := range []string{"a", "b", "c"} {
		w.clients = append(w.clients, api.Client{Name: name, Scopes: w.some("rwxy"), Targets: w.some("tuv"), Actors: w.some("123456")})
	}
	all := &w.clients[0] // may all, so that there are tokens, and actors
	all.Scopes, all.Targets, all.Actors = []string{"r", "w", "x"}, []string{"t", "u"}, []string{"1", "2", "3", "4", "5", "6"}
	s, errno := New(twoKeys(), w.clients)
	if errno != api.OK {
		t.Fatalf("P5: New: %d", errno)
	}
	w.s = s
	return w
}

// some answers some of these letters, as names, in any order.
func (w *walk) some(letters string) []string {
	var names []string
	for _, i := range w.chance.Perm(len(letters)) {
		if w.chance.IntN(4) > 0 {
			names = append(names, letters[i:i+1])
		}
	}
	return names
}

// told answers a list that a client tells: often none, seldom no list of names.
func (w *walk) told(letters string) []string {
	switch w.chance.IntN(40) {
	case 0:
		return []string{letters[:1], letters[:1]}
	case 1, 2, 3, 4:
		return w.some(letters)
	case 5, 6, 7, 8:
		return []string{letters[w.chance.IntN(len(letters)):][:1]}
	}
	return nil
}

// pick answers the number of a record, mostly of a late one; -1: of none.
func (w *walk) pick() int {
	n := len(w.known)
	if n == 0 || w.chance.IntN(12) == 0 {
		return -1
	}
	return max(w.chance.IntN(n), w.chance.IntN(n), w.chance.IntN(n))
}

func (w *walk) text(i int) string {
	if i < 0 {
		return "no token"
	}
	return w.known[i].token
}

func (w *walk) isAlive(i int) bool {
	if i < 0 {
		return true
	}
	return !w.known[i].revoked && w.now < w.known[i].claims.Expiry && w.isAlive(w.known[i].parent)
}

// untaken answers the error of taking a record's token.
func (w *walk) untaken(i int) api.Errno {
	if i < 0 {
		return api.ErrForm
	}
	if !w.isAlive(i) {
		return api.ErrGrant
	}
	return api.OK
}

func within(names []string, others ...[]string) bool {
	for _, list := range others {
		for _, name := range names {
			if !slices.Contains(list, name) {
				return false
			}
		}
	}
	return true
}

func both(names, other []string) []string {
	var found []string
	for _, name := range names {
		if slices.Contains(other, name) {
			found = append(found, name)
		}
	}
	return found
}

// expected answers the error that the document asks of an exchange, and the claims without one. An actor of -2 is none.
func (w *walk) expected(client, token, actor int, scopes, targets []string, life int) (api.Errno, api.Claims) {
	var c api.Claims
	if errno := w.untaken(token); errno != api.OK {
		return errno, c
	}
	from := w.known[token]
	subject := ""
	if actor != -2 {
		if errno := w.untaken(actor); errno != api.OK {
			return errno, c
		}
		subject = w.known[actor].claims.Subject
	}
	mayScopes, mayTargets := both(from.claims.Scopes, w.clients[client].Scopes), both(from.claims.Targets, w.clients[client].Targets)
	mayAct := client == from.holder
	if subject != "" {
		mayAct = slices.Contains(w.clients[from.holder].Actors, subject)
	}
	for _, rule := range []struct {
		broken bool
		errno  api.Errno
	}{
		{!mayAct, api.ErrActor},
		{len(scopes) == 2 && scopes[0] == scopes[1] || len(targets) == 2 && targets[0] == targets[1], api.ErrForm},
		{len(mayScopes) == 0 || !within(scopes, mayScopes), api.ErrScope},
		{len(mayTargets) == 0 || !within(targets, mayTargets), api.ErrTarget},
		{life < 1, api.ErrLife},
		{len(w.known) == api.MaxTokens, api.ErrFull},
		{subject != "" && len(from.claims.Actors) == api.MaxList, api.ErrDeep},
		{subject != "" && slices.Contains(from.claims.Actors, subject), api.ErrDeep},
	} {
		if rule.broken {
			return rule.errno, c
		}
	}
	c = api.Claims{Id: len(w.known) + 1, Subject: from.claims.Subject, Scopes: mayScopes, Targets: mayTargets, Expiry: w.now + life}
	if len(scopes) > 0 {
		c.Scopes = scopes
	}
	if len(targets) > 0 {
		c.Targets = targets
	}
	if from.claims.Expiry < c.Expiry {
		c.Expiry = from.claims.Expiry
	}
	c.Actors = strings.Fields(subject + " " + strings.Join(from.claims.Actors, " "))
	return api.OK, c
}

func (w *walk) exchange() {
	client, token, actor := max(0, w.chance.IntN(5)-2), w.pick(), w.pick()
	if w.chance.IntN(3) == 0 {
		actor = -2
	}
	if actor == -2 && token >= 0 && w.chance.IntN(4) > 0 {
		client = w.known[token].holder
	}
	scopes, targets, life := w.told("rwxy"), w.told("tuv"), w.chance.IntN(80)
	wantErrno, want := w.expected(client, token, actor, scopes, targets, life)
	actorText := ""
	if actor != -2 {
		actorText = w.text(actor)
	}
	given, errno := w.s.Exchange(api.Login{Name: w.clients[client].Name}, w.text(token), actorText, scopes, targets, life)
	if errno != wantErrno || (given != "") != (errno == api.OK) {
		w.t.Fatalf("P8: Exchange by %d of %d with %d, %q, %q, %d = %q, %d, want %d, %+v", client, token, actor, scopes, targets, life, given, errno, wantErrno, want)
	}
	w.seen[errno]++
	if errno == api.OK {
		w.known = append(w.known, record{token: given, claims: want, holder: client, parent: token})
		mustNotHaveMore(w.t, w.known[token].claims, mustRead(w.t, given))
	}
}

// mustRead answers what a token says, without a server.
func mustRead(t *testing.T, token string) api.Claims {
	t.Helper()
	text, _ := Unpack(strings.Split(token, ".")[1])
	c, errno := Parse(text)
	if errno != api.OK {
		t.Fatalf("P6: the token says %q", text)
	}
	return c
}

// mustNotHaveMore asks for what P10 says of a token and its parent.
func mustNotHaveMore(t *testing.T, parent, child api.Claims) {
	t.Helper()
	n := len(child.Actors) - len(parent.Actors)
	if !within(child.Scopes, parent.Scopes) || !within(child.Targets, parent.Targets) || child.Expiry > parent.Expiry || n < 0 || n > 1 || !slices.Equal(child.Actors[n:], parent.Actors) {
		t.Fatalf("P10: %+v came of %+v", child, parent)
	}
}

func (w *walk) consent() {
	subject, life := w.some("123456a"), 50+w.chance.IntN(50)
	if len(subject) == 0 || len(w.known) >= api.MaxTokens {
		return
	}
	c := api.Claims{Id: len(w.known) + 1, Subject: subject[0], Scopes: []string{"x", "w", "r"}, Targets: []string{"u", "t"}, Expiry: w.now + life}
	holder := max(0, w.chance.IntN(8)-5)
	if own := w.clients[holder]; holder > 0 {
		c.Scopes, c.Targets = own.Scopes, own.Targets
	}
	if len(c.Scopes) == 0 || len(c.Targets) == 0 {
		return
	}
	token, errno := w.s.Consent(api.Login{Name: w.clients[holder].Name}, c.Subject, c.Scopes, c.Targets, life)
	if errno != api.OK {
		w.t.Fatalf("P7: Consent: %d", errno)
	}
	w.known = append(w.known, record{token: token, claims: c, holder: holder, parent: -1})
}

// mayRevoke tells whether a client holds a record's token, or one that it came of.
func (w *walk) mayRevoke(client, i int) bool {
	return i >= 0 && (w.known[i].holder == client || w.mayRevoke(client, w.known[i].parent))
}

func (w *walk) revoke() {
	client, i := w.chance.IntN(len(w.clients)), w.pick()
	want := w.untaken(i)
	if want == api.OK && !w.mayRevoke(client, i) {
		want = api.ErrActor
	}
	errno := w.s.Revoke(api.Login{Name: w.clients[client].Name}, w.text(i))
	if errno != want {
		w.t.Fatalf("P9: Revoke by %d of %d = %d, want %d", client, i, errno, want)
	}
	w.revoked[errno]++
	if errno == api.OK {
		w.known[i].revoked = true
	}
	w.look()
}

func (w *walk) look() {
	for i, r := range w.known {
		want := api.Claims{}
		if w.isAlive(i) {
			want = r.claims
		}
		if c, ok, errno := w.s.Look(api.Login{Name: "c"}, r.token); !same(c, want) || ok != w.isAlive(i) || errno != api.OK {
			w.t.Fatalf("P10: Look of %d = %+v, %v, %d, want %+v", i, c, ok, errno, want)
		}
	}
}

func (w *walk) step() {
	switch n := w.chance.IntN(100); {
	case n < 15:
		w.consent()
	case n < 20:
		w.now += w.chance.IntN(5)
		mustTick(w.t, w.s, w.now)
	case n < 24:
		w.revoke()
	default:
		w.exchange()
	}
}

func TestManyWalks(t *testing.T) {
	var seen, revoked counts
	for seed := range uint64(300) {
		w := newWalk(t, seed)
		for range 150 {
			w.step()
		}
		w.look()
		seen.add(w.seen)
		revoked.add(w.revoked)
	}
	seen.mustBeMet(t, "Exchange", api.OK, api.ErrForm, api.ErrGrant, api.ErrActor, api.ErrScope, api.ErrTarget, api.ErrLife, api.ErrFull, api.ErrDeep)
	revoked.mustBeMet(t, "Revoke", api.OK, api.ErrForm, api.ErrGrant, api.ErrActor)
}
