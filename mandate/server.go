package mandate

import (
	"mandate/api"
	"mandate/claims"
	"mandate/ledger"
	"mandate/roster"
)

// errand is what a client brings a token for: what happens with it, if it is taken, and what is answered, if not.
type errand struct {
	taken   func(client *roster.Client, g *ledger.Grant) api.Errno
	refused func(errno api.Errno) api.Errno
}

// run does an errand for a client.
func (s *Server) run(who api.Login, token string, e errand) api.Errno {
	client, errno := s.clients.Login(who)
	if errno != api.OK {
		return errno
	}
	g, errno := s.take(token)
	if errno != api.OK {
		return e.refused(errno)
	}
	return e.taken(client, g)
}

// passOn is the answer to a token that is not taken, where the client is to know why.
func passOn(errno api.Errno) api.Errno { return errno }

// take answers the grant of a token that is taken (P6).
func (s *Server) take(token string) (*ledger.Grant, api.Errno) {
	text, errno := s.keys.Open(token)
	if errno != api.OK {
		return nil, errno
	}
	c, errno := claims.Read(text) // not Parse: P6 sets no length to the text in a token
	if errno != api.OK {
		return nil, errno
	}
	g := s.known.Find(c)
	if g == nil || !g.IsAlive(s.now) {
		return nil, api.ErrGrant
	}
	return g, api.OK
}

// revoke takes a grant back for a client; ErrActor, if that one holds none of the grant's line. What came of the grant
// is not marked: it is the line that tells whether a grant is alive.
func revoke(client *roster.Client, g *ledger.Grant) api.Errno {
	if !g.HasInLine(client) {
		return api.ErrActor
	}
	g.Revoked = true
	return api.OK
}

// areSomeAllowed tells whether there are names, and each of them may be.
func areSomeAllowed(names []string, mayHave func(name string) bool) bool {
	for _, name := range names {
		if !mayHave(name) {
			return false
		}
	}
	return len(names) > 0
}

// checkRoom answers ErrLife, if a token may not live so long from now on; ErrFull, if there is no room for one.
func (s *Server) checkRoom(life int) api.Errno {
	if life < 1 || life > api.MaxLife || s.now+life > api.MaxNumber {
		return api.ErrLife
	}
	if s.known.IsFull() {
		return api.ErrFull
	}
	return api.OK
}

// give makes a token of these claims, the Id apart, and answers its text.
func (s *Server) give(c api.Claims, holder *roster.Client, parent *ledger.Grant) string {
	g := s.known.Add(c, holder, parent)
	text, _ := claims.Print(g.Claims()) // never refused: what is not of the form does not come here
	return s.keys.Sign(text)
}
