// Package mandate: tokens that are handed on: see DOC.md.
package mandate

import (
	"mandate/api"
	"mandate/claims"
	"mandate/digest"
	"mandate/sixbit"
)

// Mac is HMAC with SHA-256 (P3).
func Mac(key string, text string) [32]byte { return digest.Mac(key, text) }

// Pack is Base64 (P3).
func Pack(bytes string) string { return sixbit.Pack(bytes) }

// Unpack reads Base64 (P3).
func Unpack(text string) (string, api.Errno) { return sixbit.Unpack(text) }

// Print writes claims (P4).
func Print(c api.Claims) (string, api.Errno) { return claims.Print(c) }

// Parse reads claims (P4).
func Parse(text string) (api.Claims, api.Errno) { return claims.Parse(text) }

// Server gives tokens.
type Server struct{}

// New makes a server (P5).
func New(keys []api.Key, clients []api.Client) (*Server, api.Errno) { return nil, api.OK }

// Tick sets the time (P5).
func (s *Server) Tick(now int) api.Errno { return api.OK }

// Use signs with a key from now on (P5).
func (s *Server) Use(key string) api.Errno { return api.OK }

// Consent gives a first token (P7).
func (s *Server) Consent(who api.Login, subject string, scopes, targets []string, life int) (string, api.Errno) {
	return "", api.OK
}

// Exchange gives a token for another one (P8).
func (s *Server) Exchange(who api.Login, token string, actor string, scopes, targets []string, life int) (string, api.Errno) {
	return "", api.OK
}

// Look tells the claims of a token that is taken (P9).
func (s *Server) Look(who api.Login, token string) (api.Claims, bool, api.Errno) {
	return api.Claims{}, false, api.OK
}

// Revoke takes a token back (P9).
func (s *Server) Revoke(who api.Login, token string) api.Errno { return api.OK }
