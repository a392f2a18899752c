package mandate

import (
	"encoding/hex"
	"math/rand/v2"
	"slices"
	"strings"
	"testing"

	"mandate/api"
)

func same(a, b api.Claims) bool {
	return a.Id == b.Id && a.Subject == b.Subject && a.Expiry == b.Expiry &&
		slices.Equal(a.Scopes, b.Scopes) && slices.Equal(a.Targets, b.Targets) && slices.Equal(a.Actors, b.Actors)
}

// full answers claims all of whose lists have names.
func full() api.Claims {
	return api.Claims{Id: 7, Subject: "ann", Scopes: []string{"r", "w", "x"}, Targets: []string{"t", "u", "v"}, Actors: []string{"bob", "eve", "joe"}, Expiry: 9}
}

// oddTexts are texts that some reader could stumble over.
func oddTexts() []string {
	texts := []string{"", "\x00", "\xff", "\\", "\"", "\"\\", "\"\\u", "\"\\ud800\\u", "{", "}", "[", "{\"", "{\"\\", "{\"jti\":", "{\"jti\":9", "{\"sub\":\"\xf0\x9f\x98",
		strings.Repeat("[", 5000), strings.Repeat("{\"jti\":", 500), strings.Repeat("9", 5000), strings.Repeat("\"", 4096), strings.Repeat("\\", 4096), strings.Repeat("\xff", 100000), strings.Repeat("A", 100001)}
	for b := range 256 {
		texts = append(texts, string([]byte{byte(b)}), string([]byte{'{', byte(b)}), string([]byte{'A', byte(b)}), string([]byte{'{', '"', byte(b)}))
	}
	return texts
}

func TestOddTextsOfP1(t *testing.T) {
	for _, text := range oddTexts() {
		if bytes, errno := Unpack(text); errno != api.OK && (bytes != "" || errno != api.ErrForm) {
			t.Errorf("P1: Unpack(%.40q) = %.40q, %d", text, bytes, errno)
		}
		if c, errno := Parse(text); errno != api.ErrForm || !same(c, api.Claims{}) {
			t.Errorf("P1: Parse(%.40q) = %+v, %d", text, c, errno)
		}
		if bytes, errno := Unpack(Pack(text)); bytes != text || errno != api.OK {
			t.Errorf("P1: Unpack of Pack(%.40q) = %.40q, %d", text, bytes, errno)
		}
		if Mac(text, text) != Mac(text, text) {
			t.Errorf("P2: Mac(%.40q) is another one at the second time", text)
		}
		c := full()
		c.Scopes = []string{text}
		if printed, errno := Print(c); errno != api.OK && (printed != "" || errno != api.ErrForm) {
			t.Errorf("P1: Print with the scope %.40q = %.40q, %d", text, printed, errno)
		}
	}
}

func TestOddClaimsOfP1(t *testing.T) {
	huge := make([]string, 100000)
	for _, n := range []int{-1 << 63, -1, 0, api.MaxNumber, api.MaxNumber + 1, 1<<63 - 1} {
		for _, list := range [][]string{nil, {}, {""}, huge, {"a", "a"}, {"a"}} {
			c := full()
			c.Id, c.Actors = n, list
			good := n >= 0 && n <= api.MaxNumber && (len(list) == 0 || len(list) == 1 && list[0] == "a")
			printed, errno := Print(c)
			if good != (errno == api.OK) || !good && (printed != "" || errno != api.ErrForm) {
				t.Errorf("P1: Print with the id %d and %d actors = %.40q, %d", n, len(list), printed, errno)
			}
		}
	}
}

// withRoom answers a list with names in its spare room, and all of that room.
func withRoom(names ...string) (list, room []string) {
	room = append(slices.Clone(names), "behind", "farther behind")
	return room[:len(names)], room
}

func TestPrintWritesIntoNothing(t *testing.T) {
	for _, subject := range []string{"ann", ""} { // taken, and refused
		scopes, scopeRoom := withRoom("r", "w")
		targets, targetRoom := withRoom("u", "t")
		actors, actorRoom := withRoom()
		c := api.Claims{Id: 1, Subject: subject, Scopes: scopes, Targets: targets, Actors: actors, Expiry: 9}
		first, _ := Print(c)
		second, _ := Print(c)
		if first != second {
			t.Errorf("P2: Print = %s, then %s", first, second)
		}
		if !slices.Equal(scopeRoom, []string{"r", "w", "behind", "farther behind"}) || !slices.Equal(targetRoom, []string{"u", "t", "behind", "farther behind"}) || !slices.Equal(actorRoom, []string{"behind", "farther behind"}) {
			t.Errorf("P2: Print has written: %q, %q, %q", scopeRoom, targetRoom, actorRoom)
		}
	}
}

// spoil writes into a list and behind it.
func spoil(list []string) {
	list = list[:cap(list)]
	for i := range list {
		list[i] = "spoilt"
	}
}

func TestListsOfParseShareNothing(t *testing.T) {
	text, _ := Print(full())
	for which := range 3 {
		c, _ := Parse(text)
		other, _ := Parse(text)
		lists := [][]string{c.Scopes, c.Targets, c.Actors}
		spoil(lists[which])
		want := [][]string{full().Scopes, full().Targets, full().Actors}
		for i := range lists {
			if i != which && !slices.Equal(lists[i], want[i]) {
				t.Errorf("P2: list %d was written into by list %d: %q", i, which, lists[i])
			}
		}
		if later, errno := Parse(text); !same(other, full()) || !same(later, full()) || errno != api.OK {
			t.Errorf("P2: list %d was that of another answer: %+v, %+v", which, other, later)
		}
	}
}

func TestFirstExample(t *testing.T) {
	if text := Pack("\x00\xff"); text != "AP8" {
		t.Errorf("P3: Pack = %s", text)
	}
	if bytes, errno := Unpack("AP8"); bytes != "\x00\xff" || errno != api.OK {
		t.Errorf("P3: Unpack = %q, %d", bytes, errno)
	}
	for _, text := range []string{"AP9", "A", "AP8="} {
		if bytes, errno := Unpack(text); bytes != "" || errno != api.ErrForm {
			t.Errorf("P3: Unpack(%s) = %q, %d", text, bytes, errno)
		}
	}
	mac := Mac("key", "The quick brown fox jumps over the lazy dog")
	if hex.EncodeToString(mac[:4]) != "f7bc83f4" {
		t.Errorf("P3: Mac = %x", mac)
	}
}

func TestSecondExample(t *testing.T) {
	c := api.Claims{Id: 1, Subject: `a"b`, Scopes: []string{"r", "w"}, Expiry: 9}
	const want = `{"jti":1,"sub":"a\"b","scp":["r","w"],"aud":[],"act":[],"exp":9}`
	if text, errno := Print(c); text != want || errno != api.OK {
		t.Errorf("P4: Print = %s, %d", text, errno)
	}
	for _, text := range []string{want, strings.Replace(want, `a\"b`, `a\u0022b`, 1), strings.ReplaceAll(want, ",", " ,\n")} {
		if got, errno := Parse(text); !same(got, c) || errno != api.OK {
			t.Errorf("P4: Parse(%s) = %+v, %d", text, got, errno)
		}
	}
	for _, text := range []string{strings.Replace(want, ":1,", ":01,", 1), strings.Replace(want, `"exp":9`, `"exp":9,"exp":9`, 1), strings.Replace(want, `"exp":9`, `"exp":9,"iat":9`, 1), strings.Replace(want, `"a\"b"`, `"\ud800"`, 1)} {
		if got, errno := Parse(text); !same(got, api.Claims{}) || errno != api.ErrForm {
			t.Errorf("P4: Parse(%s) = %+v, %d", text, got, errno)
		}
	}
}

// anyName answers a name by chance, of up to MaxName bytes.
func anyName(chance *rand.Rand) string {
	name := ""
	for range 1 + chance.IntN(api.MaxName) {
		signs := []string{string(rune(chance.IntN(128))), "\"", "\\", "/", "\x00", "\x1f", "\x7f", "é", "\u2028", "\ufffd", "\U0010ffff", "a"}
		if sign := signs[chance.IntN(len(signs))]; len(name)+len(sign) <= api.MaxName {
			name += sign
		}
	}
	return name
}

func anyList(chance *rand.Rand) []string {
	var names []string
	for range chance.IntN(api.MaxList + 1) {
		if name := anyName(chance); !slices.Contains(names, name) {
			names = append(names, name)
		}
	}
	return names
}

func anyNumber(chance *rand.Rand) int {
	return []int{0, 1, 10, chance.IntN(100), chance.IntN(api.MaxNumber), api.MaxNumber}[chance.IntN(6)]
}

func TestParseOfPrint(t *testing.T) {
	chance := rand.New(rand.NewPCG(10, 1))
	for range 5000 {
		c := api.Claims{Id: anyNumber(chance), Subject: anyName(chance), Scopes: anyList(chance), Targets: anyList(chance), Actors: anyList(chance), Expiry: anyNumber(chance)}
		text, errno := Print(c)
		if errno != api.OK {
			t.Fatalf("P4: Print(%+v): %d", c, errno)
		}
		if back, errno := Parse(text); !same(back, c) || errno != api.OK {
			t.Fatalf("P10: Parse(%s) = %+v, %d, want %+v", text, back, errno, c)
		}
	}
}

// No plain text is too long for Parse.
func TestParseOfTheLongestPrint(t *testing.T) {
	var names []string
	for i := range api.MaxList {
		names = append(names, strings.Repeat("\x1f", api.MaxName-1)+string(rune(i)))
	}
	c := api.Claims{Id: api.MaxNumber, Subject: names[0], Scopes: names, Targets: names, Actors: names, Expiry: api.MaxNumber}
	text, errno := Print(c)
	if errno != api.OK {
		t.Fatalf("P4: Print: %d", errno)
	}
	if back, errno := Parse(text); !same(back, c) || errno != api.OK {
		t.Errorf("P10: Parse of %d bytes = %+v, %d", len(text), back, errno)
	}
}

func TestUnpackOfPack(t *testing.T) {
	chance := rand.New(rand.NewPCG(10, 2))
	for length := range 300 {
		bytes := make([]byte, length)
		for i := range bytes {
			bytes[i] = byte(chance.Uint32())
		}
		if back, errno := Unpack(Pack(string(bytes))); back != string(bytes) || errno != api.OK {
			t.Errorf("P10: Unpack of Pack of %q = %q, %d", bytes, back, errno)
		}
	}
}
