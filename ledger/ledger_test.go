package ledger

import (
	"testing"

	"mandate/api"
	"mandate/roster"
)

var holder = &roster.Client{Name: "holder"}

func full() api.Claims {
	return api.Claims{Subject: "ann", Scopes: []string{"r", "w"}, Targets: []string{"t", "u"}, Actors: []string{"bob", "eve"}, Expiry: 10}
}

func TestAddAndFind(t *testing.T) {
	var l Ledger
	for i := 1; i <= api.MaxTokens; i++ {
		if l.IsFull() {
			t.Errorf("P7: full with %d", i-1)
		}
		c := full()
		c.Id = 77
		g := l.Add(c, holder, nil)
		c.Id = i
		if !areSame(g.Claims(), c) || g.Holder != holder || g.Parent != nil || g.Revoked {
			t.Errorf("P6: grant %d is %+v", i, g)
		}
		if l.Find(c) != g {
			t.Errorf("P6: grant %d is not found", i)
		}
	}
	if !l.IsFull() {
		t.Errorf("P7: not full with %d", api.MaxTokens)
	}
	for _, id := range []int{-1 << 63, -1, 0, api.MaxTokens + 1, 1<<63 - 1} {
		c := full()
		c.Id = id
		if l.Find(c) != nil {
			t.Errorf("P6: Id %d is found", id)
		}
	}
}

func TestFindAsksForAllClaims(t *testing.T) {
	var l Ledger
	l.Add(full(), holder, nil)
	other := full()
	other.Subject = "joe"
	l.Add(other, holder, nil)
	for i, change := range []func(c *api.Claims){
		func(c *api.Claims) { c.Id = 2 },
		func(c *api.Claims) { c.Subject = "joe" },
		func(c *api.Claims) { c.Expiry++ },
		func(c *api.Claims) { c.Scopes = []string{"w", "r"} },
		func(c *api.Claims) { c.Scopes = []string{"r"} },
		func(c *api.Claims) { c.Targets = []string{"t", "u", "v"} },
		func(c *api.Claims) { c.Targets = nil },
		func(c *api.Claims) { c.Actors = []string{"eve", "bob"} },
		func(c *api.Claims) { c.Actors = []string{} },
	} {
		c := full()
		c.Id = 1
		change(&c)
		if l.Find(c) != nil {
			t.Errorf("P6: change %d: other claims are found", i)
		}
	}
}

func TestEmptyListsAreTheSame(t *testing.T) {
	var l Ledger
	c := full()
	c.Actors = nil
	l.Add(c, holder, nil)
	c.Id, c.Actors = 1, []string{}
	if l.Find(c) == nil {
		t.Errorf("P2: a list without an element is found only as nil")
	}
}

func TestIsAlive(t *testing.T) {
	expiries := []int{30, 20, 25} // of the first, its child, and that one's: the least of them holds
	for revoked := -1; revoked < len(expiries); revoked++ {
		var l Ledger
		var last *Grant
		var line []*Grant
		for _, expiry := range expiries {
			last = l.Add(api.Claims{Subject: "ann", Expiry: expiry}, holder, last)
			line = append(line, last)
		}
		if revoked >= 0 {
			line[revoked].Revoked = true
		}
		ends := []int{30, 20, 20}
		for i, g := range line {
			for _, now := range []int{0, 19, 20, 21, 24, 25, 29, 30, 31, api.MaxNumber} {
				want := now < ends[i] && (revoked < 0 || revoked > i)
				if g.IsAlive(now) != want {
					t.Errorf("P6: grant %d at %d, with %d revoked: alive %v", i, now, revoked, !want)
				}
			}
		}
	}
}

func TestHasInLine(t *testing.T) {
	var l Ledger
	var last *Grant
	var line []*Grant
	holders := []*roster.Client{{Name: "a"}, {Name: "b"}, {Name: "b"}, {Name: "c"}} // two of one name are two
	for _, one := range holders {
		last = l.Add(full(), one, last)
		line = append(line, last)
	}
	beside := l.Add(full(), holder, line[1])
	for i, one := range holders {
		for j, g := range line {
			if g.HasInLine(one) != (i <= j) {
				t.Errorf("P9: grant %d has the holder of %d in its line: %v", j, i, i > j)
			}
		}
		if beside.HasInLine(one) != (i <= 1) {
			t.Errorf("P9: the grant beside has the holder of %d in its line: %v", i, i > 1)
		}
	}
	if !beside.HasInLine(holder) || line[3].HasInLine(holder) || line[3].HasInLine(nil) {
		t.Errorf("P9: a holder that is none, or is not known")
	}
}

// spoil writes into a list and behind it.
func spoil(list []string) {
	list = list[:cap(list)]
	for i := range list {
		list[i] = "spoilt"
	}
}

func TestListsAreNotShared(t *testing.T) {
	var l Ledger
	c := full()
	g := l.Add(c, holder, nil)
	want := full()
	want.Id = 1
	for _, handed := range []api.Claims{c, g.Claims()} {
		spoil(handed.Scopes)
		spoil(handed.Targets)
		spoil(handed.Actors)
		if !areSame(g.Claims(), want) || l.Find(want) != g {
			t.Errorf("P2: the grant is %+v", g.Claims())
		}
	}
}
