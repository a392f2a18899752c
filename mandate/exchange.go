package mandate

import (
	"slices"

	"mandate/api"
	"mandate/claims"
	"mandate/ledger"
	"mandate/roster"
)

// wish is what a client wants of the token that it is given for another one.
type wish struct {
	actor           string // a token, or empty
	scopes, targets []string
	life            int
}

// exchange gives a client a token whose parent is g.
func (s *Server) exchange(client *roster.Client, g *ledger.Grant, w wish) (string, api.Errno) {
	ahead, errno := s.findActor(client, g, w.actor)
	if errno != api.OK {
		return "", errno
	}
	c, errno := narrow(g.Claims(), client, w)
	if errno != api.OK {
		return "", errno
	}
	if errno := s.checkRoom(w.life); errno != api.OK {
		return "", errno
	}
	c.Actors = slices.Concat(ahead, c.Actors)
	if !claims.IsList(c.Actors) { // the token's were a list: it is the actor that is one too many, or there already
		return "", api.ErrDeep
	}
	c.Expiry = min(c.Expiry, s.now+w.life)
	return s.give(c, client, g), api.OK
}

// findActor answers the subject of the actor's token, or none, if there is no actor; ErrActor, if the one that acts,
// the actor or the client itself, may not act so with g.
func (s *Server) findActor(client *roster.Client, g *ledger.Grant, actor string) ([]string, api.Errno) {
	if actor == "" {
		if g.Holder != client {
			return nil, api.ErrActor
		}
		return nil, api.OK
	}
	a, errno := s.take(actor)
	if errno != api.OK {
		return nil, errno
	}
	subject := a.Claims().Subject
	if !g.Holder.LetsAct(subject) {
		return nil, api.ErrActor
	}
	return []string{subject}, api.OK
}

// narrow answers the claims with the scopes and targets alone that are wished.
func narrow(c api.Claims, client *roster.Client, w wish) (api.Claims, api.Errno) {
	if !claims.IsList(w.scopes) || !claims.IsList(w.targets) {
		return api.Claims{}, api.ErrForm
	}
	c.Scopes = choose(c.Scopes, w.scopes, client.MayHaveScope)
	if len(c.Scopes) == 0 {
		return api.Claims{}, api.ErrScope
	}
	c.Targets = choose(c.Targets, w.targets, client.MayHaveTarget)
	if len(c.Targets) == 0 {
		return api.Claims{}, api.ErrTarget
	}
	return c, api.OK
}

// choose answers the names that are told, or none, if one of them is not among all or may not be; without any told,
// those of all that may be.
func choose(all, told []string, mayHave func(name string) bool) []string {
	if len(told) == 0 {
		return slices.DeleteFunc(slices.Clone(all), func(name string) bool { return !mayHave(name) })
	}
	mayChoose := func(name string) bool { return mayHave(name) && slices.Contains(all, name) }
	if !areSomeAllowed(told, mayChoose) {
		return nil
	}
	return told
}
