// Package mandate: tokens that are handed on: see DOC.md.
package mandate

import (
	"mandate/api"
	"mandate/claims"
	"mandate/digest"
	"mandate/ledger"
	"mandate/roster"
	"mandate/seal"
	"mandate/sixbit"
)

// Mac is HMAC with SHA-256 (P3).
func Mac(key string, text string) [32]byte { return digest.Mac(key, text) }

// Pack is Base64 (P3).
func Pack(bytes string) string { return sixbit.Pack(bytes) }

// Unpack reads Base64 (P3).
func Unpack(text string) (string, api.Errno) { return sixbit.Unpack(text) }

// Print writes claims (P4).
func Print(c api.Claims) (string, api.Errno) { return claims.Print(c) }

// Parse reads claims (P4).
func Parse(text string) (api.Claims, api.Errno) { return claims.Parse(text) }

// Server gives tokens.
type Server struct {
	now     int
	keys    *seal.Ring
	clients *roster.Roster
	known   ledger.Ledger
}

// New makes a server (P5).
func New(keys []api.Key, clients []api.Client) (*Server, api.Errno) {
	ring, errno := seal.NewRing(keys)
	if errno != api.OK {
		return nil, errno
	}
	list, errno := roster.New(clients)
	if errno != api.OK {
		return nil, errno
	}
	return &Server{keys: ring, clients: list}, api.OK
}

// Tick sets the time (P5).
func (s *Server) Tick(now int) api.Errno {
	if now < s.now || now > api.MaxNumber {
		return api.ErrArg
	}
	s.now = now
	return api.OK
}

// Use signs with a key from now on (P5).
func (s *Server) Use(key string) api.Errno { return s.keys.Use(key) }

// Consent gives a first token (P7).
func (s *Server) Consent(who api.Login, subject string, scopes, targets []string, life int) (string, api.Errno) {
	client, errno := s.clients.Login(who)
	if errno != api.OK {
		return "", errno
	}
	if !claims.IsName(subject) || !claims.IsList(scopes) || !claims.IsList(targets) {
		return "", api.ErrForm
	}
	if !areSomeAllowed(scopes, client.MayHaveScope) {
		return "", api.ErrScope
	}
	if !areSomeAllowed(targets, client.MayHaveTarget) {
		return "", api.ErrTarget
	}
	if errno := s.checkRoom(life); errno != api.OK {
		return "", errno
	}
	c := api.Claims{Subject: subject, Scopes: scopes, Targets: targets, Expiry: s.now + life}
	return s.give(c, client, nil), api.OK
}

// Exchange gives a token for another one (P8).
func (s *Server) Exchange(who api.Login, token string, actor string, scopes, targets []string, life int) (string, api.Errno) {
	wanted := wish{actor: actor, scopes: scopes, targets: targets, life: life}
	given := ""
	errno := s.run(who, token, errand{
		taken: func(client *roster.Client, g *ledger.Grant) (errno api.Errno) {
			given, errno = s.exchange(client, g, wanted)
			return errno
		},
		refused: passOn,
	})
	return given, errno
}

// Look tells the claims of a token that is taken (P9).
func (s *Server) Look(who api.Login, token string) (api.Claims, bool, api.Errno) {
	var told api.Claims
	isTaken := false
	errno := s.run(who, token, errand{
		taken: func(_ *roster.Client, g *ledger.Grant) api.Errno {
			told, isTaken = g.Claims(), true
			return api.OK
		},
		refused: func(api.Errno) api.Errno { return api.OK },
	})
	return told, isTaken, errno
}

// Revoke takes a token back (P9).
func (s *Server) Revoke(who api.Login, token string) api.Errno {
	return s.run(who, token, errand{taken: revoke, refused: passOn})
}
