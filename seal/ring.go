// Package seal: the keys of a server, and the texts of tokens that are signed with them.
package seal

import (
	"slices"

	"mandate/api"
	"mandate/claims"
)

// Ring has the keys of a server, one of which signs.
type Ring struct {
	keys []api.Key
	used int // the place of the one that signs
}

// NewRing answers a ring of these keys, the first of which signs; ErrArg, if they may not be.
func NewRing(keys []api.Key) (*Ring, api.Errno) {
	if len(keys) < 1 || len(keys) > api.MaxKeys {
		return nil, api.ErrArg
	}
	r := &Ring{}
	for _, key := range keys {
		if !claims.IsPlainName(key.Name) || len(key.Secret) > api.MaxSecret || r.find(key.Name) >= 0 {
			return nil, api.ErrArg
		}
		r.keys = append(r.keys, key)
	}
	return r, api.OK
}

// Use lets the key of this name sign from now on; ErrKey, if there is none.
func (r *Ring) Use(name string) api.Errno {
	at := r.find(name)
	if at < 0 {
		return api.ErrKey
	}
	r.used = at
	return api.OK
}

// find answers the place of the key of this name; below 0, if there is none.
func (r *Ring) find(name string) int {
	return slices.IndexFunc(r.keys, func(key api.Key) bool { return key.Name == name })
}
