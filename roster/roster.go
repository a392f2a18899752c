// Package roster: the clients of a server, and what they may.
package roster

import (
	"slices"

	"mandate/api"
	"mandate/claims"
)

// Client is a client that a server has. What it may is asked of its functions.
type Client struct {
	Name          string
	MayHaveScope  func(scope string) bool
	MayHaveTarget func(target string) bool
	LetsAct       func(subject string) bool // for whoever it holds tokens of
	secret        string
}

// Roster has the clients of a server.
type Roster struct {
	clients []*Client
}

// New answers a roster of these clients; ErrArg, if they may not be.
func New(clients []api.Client) (*Roster, api.Errno) {
	if len(clients) > api.MaxClients {
		return nil, api.ErrArg
	}
	r := &Roster{}
	for _, c := range clients {
		if !isClient(c) || r.find(c.Name) != nil {
			return nil, api.ErrArg
		}
		r.clients = append(r.clients, newClient(c))
	}
	return r, api.OK
}

// isClient tells whether c may be a client, apart from the others.
func isClient(c api.Client) bool {
	return claims.IsPlainName(c.Name) && len(c.Secret) <= api.MaxSecret &&
		claims.IsList(c.Scopes) && claims.IsList(c.Targets) && claims.IsList(c.Actors)
}

func newClient(c api.Client) *Client {
	return &Client{
		Name:          c.Name,
		MayHaveScope:  isAmong(c.Scopes),
		MayHaveTarget: isAmong(c.Targets),
		LetsAct:       isAmong(c.Actors),
		secret:        c.Secret,
	}
}

// isAmong answers a function that tells whether a name is one of these. It has a list of its own: the caller may
// write into the one that was handed in.
func isAmong(names []string) func(name string) bool {
	own := slices.Clone(names)
	return func(name string) bool { return slices.Contains(own, name) }
}

// Login answers the client of a login; ErrClient, if there is none of this name, or its secret is another one.
func (r *Roster) Login(who api.Login) (*Client, api.Errno) {
	c := r.find(who.Name)
	if c == nil || c.secret != who.Secret {
		return nil, api.ErrClient
	}
	return c, api.OK
}

// find answers the client of this name; nil, if there is none.
func (r *Roster) find(name string) *Client {
	for _, c := range r.clients {
		if c.Name == name {
			return c
		}
	}
	return nil
}
