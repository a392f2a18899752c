package roster

import (
	"strconv"
	"strings"
	"testing"

	"mandate/api"
)

func manyClients(n int) []api.Client {
	var clients []api.Client
	for i := range n {
		clients = append(clients, api.Client{Name: "c" + strconv.Itoa(i)})
	}
	return clients
}

func TestNew(t *testing.T) {
	six := []string{"1", "2", "3", "4", "5", "6"}
	for i, clients := range [][]api.Client{
		nil,
		{},
		manyClients(1),
		manyClients(api.MaxClients),
		{{Name: "0", Scopes: six, Targets: six, Actors: six}},
		{{Name: strings.Repeat("z", api.MaxName), Secret: strings.Repeat("\xff", api.MaxSecret)}},
		{{Name: "a", Secret: "same"}, {Name: "b", Secret: "same"}},
		{{Name: "a", Scopes: []string{"É\x00"}, Targets: []string{"sixteen bytes..."}, Actors: []string{"x", "X"}}},
	} {
		if r, errno := New(clients); r == nil || errno != api.OK {
			t.Errorf("P5: good clients %d: %v, %d", i, r, errno)
		}
	}
	bad := [][]api.Client{
		manyClients(api.MaxClients + 1),
		{{Name: ""}},
		{{Name: "a"}, {Name: "B"}},
		{{Name: "a"}, {Name: "b"}, {Name: "a"}},
		{{Name: strings.Repeat("z", api.MaxName+1)}},
		{{Name: "a"}, {Name: "b", Secret: strings.Repeat("s", api.MaxSecret+1)}},
	}
	for _, list := range [][]string{{""}, {"a", "a"}, {"a", "\xff"}, {"seventeen bytes.."}, append(six, "7")} {
		bad = append(bad, []api.Client{{Name: "a", Scopes: list}}, []api.Client{{Name: "a", Targets: list}}, []api.Client{{Name: "a"}, {Name: "b", Actors: list}})
	}
	for i, clients := range bad {
		if r, errno := New(clients); r != nil || errno != api.ErrArg {
			t.Errorf("P5: bad clients %d: %v, %d", i, r, errno)
		}
	}
}

func TestLogin(t *testing.T) {
	r, _ := New([]api.Client{{Name: "a", Secret: "one"}, {Name: "b", Secret: "two"}, {Name: "c"}})
	for _, who := range []api.Login{{Name: "a", Secret: "one"}, {Name: "b", Secret: "two"}, {Name: "c"}} {
		if c, errno := r.Login(who); errno != api.OK || c.Name != who.Name {
			t.Errorf("P6: Login(%v) = %v, %d", who, c, errno)
		}
	}
	for _, who := range []api.Login{{}, {Name: "a"}, {Name: "a", Secret: "two"}, {Name: "a", Secret: "one "}, {Name: "a", Secret: "on"}, {Name: "c", Secret: "one"}, {Name: "A", Secret: "one"}, {Name: "d"}, {Name: "\xff", Secret: strings.Repeat("x", 100000)}} {
		if c, errno := r.Login(who); c != nil || errno != api.ErrClient {
			t.Errorf("P6: Login(%.40v) = %v, %d", who, c, errno)
		}
	}
}

func TestWhatAClientMay(t *testing.T) {
	scopes, targets, actors := []string{"r", "w"}, []string{"t"}, []string{"x", "y"}
	clients := []api.Client{{Name: "a", Scopes: scopes, Targets: targets, Actors: actors}, {Name: "b", Scopes: targets, Targets: actors, Actors: scopes}, {Name: "c"}}
	r, _ := New(clients)
	scopes[0], targets[0], actors[0], clients[0] = "?", "?", "?", api.Client{}
	for _, row := range []struct{ client, scopes, targets, actors string }{{"a", "rw", "t", "xy"}, {"b", "t", "xy", "rw"}, {"c", "", "", ""}} {
		c, errno := r.Login(api.Login{Name: row.client})
		if errno != api.OK {
			t.Fatalf("P2: Login(%s): %d", row.client, errno)
		}
		for _, name := range []string{"r", "w", "t", "x", "y", "?", "R", "", "rw", "\xff"} {
			has := func(names string) bool { return len(name) == 1 && strings.Contains(names, name) }
			if c.MayHaveScope(name) != has(row.scopes) || c.MayHaveTarget(name) != has(row.targets) || c.LetsAct(name) != has(row.actors) {
				t.Errorf("P5: %s and %q: scope %v, target %v, actor %v", row.client, name, c.MayHaveScope(name), c.MayHaveTarget(name), c.LetsAct(name))
			}
		}
	}
}
