// Package ledger: the tokens that a server has given, and so knows.
package ledger

import (
	"slices"

	"mandate/api"
	"mandate/roster"
)

// Grant is a token that was given.
type Grant struct {
	Holder  *roster.Client // the client that it was given to
	Parent  *Grant         // nil, if it has none
	Revoked bool
	claims  api.Claims
}

// Claims answers the claims, in lists that are the caller's.
func (g *Grant) Claims() api.Claims {
	return copied(g.claims)
}

// IsAlive tells whether neither this one nor one that it came of was revoked or is over.
func (g *Grant) IsAlive(now int) bool {
	for one := g; one != nil; one = one.Parent {
		if one.Revoked || now >= one.claims.Expiry {
			return false
		}
	}
	return true
}

// HasInLine tells whether the client holds this one or one that it came of.
func (g *Grant) HasInLine(client *roster.Client) bool {
	for one := g; one != nil; one = one.Parent {
		if one.Holder == client {
			return true
		}
	}
	return false
}

// Ledger has the grants of a server, in the order of their Ids.
type Ledger struct {
	grants []*Grant
}

// IsFull tells whether no grant more may be added.
func (l *Ledger) IsFull() bool {
	return len(l.grants) >= api.MaxTokens
}

// Add keeps a grant of these claims, with the next Id, and answers it.
func (l *Ledger) Add(c api.Claims, holder *roster.Client, parent *Grant) *Grant {
	g := &Grant{Holder: holder, Parent: parent, claims: copied(c)}
	g.claims.Id = len(l.grants) + 1
	l.grants = append(l.grants, g)
	return g
}

// Find answers the grant of just these claims; nil, if there is none.
func (l *Ledger) Find(c api.Claims) *Grant {
	if c.Id < 1 || c.Id > len(l.grants) {
		return nil
	}
	g := l.grants[c.Id-1]
	if !areSame(g.claims, c) {
		return nil
	}
	return g
}

func areSame(a, b api.Claims) bool {
	return a.Id == b.Id && a.Subject == b.Subject && a.Expiry == b.Expiry &&
		slices.Equal(a.Scopes, b.Scopes) && slices.Equal(a.Targets, b.Targets) && slices.Equal(a.Actors, b.Actors)
}

// copied answers the claims with lists of their own.
func copied(c api.Claims) api.Claims {
	c.Scopes = slices.Clone(c.Scopes)
	c.Targets = slices.Clone(c.Targets)
	c.Actors = slices.Clone(c.Actors)
	return c
}
