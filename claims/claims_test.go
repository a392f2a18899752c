package claims

import (
	"encoding/json"
	"slices"
	"strconv"
	"strings"
	"testing"

	"mandate/api"
)

// written is how the library's package json sees claims.
type written struct {
	Jti int      `json:"jti"`
	Sub string   `json:"sub"`
	Scp []string `json:"scp"`
	Aud []string `json:"aud"`
	Act []string `json:"act"`
	Exp int      `json:"exp"`
}

func same(a, b api.Claims) bool {
	return a.Id == b.Id && a.Subject == b.Subject && a.Expiry == b.Expiry &&
		slices.Equal(a.Scopes, b.Scopes) && slices.Equal(a.Targets, b.Targets) && slices.Equal(a.Actors, b.Actors)
}

func isEmpty(c api.Claims) bool {
	return same(c, api.Claims{})
}

// simple answers claims that Print takes, for a test to change.
func simple() api.Claims {
	return api.Claims{Id: 1, Subject: "ann", Scopes: []string{"r", "w"}, Targets: []string{"t"}, Expiry: 9}
}

const simpleText = `{"jti":1,"sub":"ann","scp":["r","w"],"aud":["t"],"act":[],"exp":9}`

// around answers a text of claims with that value of a name.
func around(name, value string) string {
	values := map[string]string{"jti": "1", "sub": `"ann"`, "scp": `[]`, "aud": `[]`, "act": `[]`, "exp": "9"}
	values[name] = value
	var parts []string
	for _, n := range []string{"jti", "sub", "scp", "aud", "act", "exp"} {
		parts = append(parts, `"`+n+`":`+values[n])
	}
	return "{" + strings.Join(parts, ",") + "}"
}

// numbered answers n names that differ, of 16 bytes that are written with six each.
func numbered(n int) []string {
	var out []string
	for i := range n {
		out = append(out, string(rune(i+1))+strings.Repeat("\x00", api.MaxName-1))
	}
	return out
}

func TestNames(t *testing.T) {
	for _, s := range []string{"a", " ", "\x00", "\x7f", "é", "\U0010ffff", "\ufffd", strings.Repeat("x", 16), strings.Repeat("é", 8), strings.Repeat("😀", 4)} {
		if !IsName(s) {
			t.Errorf("P4: %q is a name", s)
		}
	}
	for _, s := range []string{"", strings.Repeat("x", 17), strings.Repeat("é", 8) + "x", "\xff", "\x80", "a\xc3", "\xc3(", "\xc0\x80", "\xe0\x80\x80", "\xed\xa0\x80", "\xed\xbf\xbf", "\xf4\x90\x80\x80", "\xf8\x88\x80\x80\x80"} {
		if IsName(s) {
			t.Errorf("P4: %q is no name", s)
		}
	}
}

func TestPlainNames(t *testing.T) {
	for b := range 256 {
		c := string([]byte{byte(b)})
		want := strings.Contains("abcdefghijklmnopqrstuvwxyz0123456789", c)
		for _, s := range []string{c, "a" + c, c + "9", strings.Repeat(c, api.MaxName)} {
			if IsPlainName(s) != want {
				t.Errorf("P5: %q is plain: %v", s, !want)
			}
		}
	}
	for _, s := range []string{"", "é", strings.Repeat("x", api.MaxName+1), strings.Repeat("x", 100000), "a b"} {
		if IsPlainName(s) {
			t.Errorf("P5: %q is plain", s)
		}
	}
}

func TestLists(t *testing.T) {
	six := []string{"1", "2", "3", "4", "5", "6"}
	for _, l := range [][]string{nil, {}, {"a"}, {"a", "A"}, {"é", "e\u0301"}, six} {
		if !IsList(l) {
			t.Errorf("P4: %q is a list", l)
		}
	}
	for _, l := range [][]string{{""}, {"a", "a"}, {"a", "b", "c", "d", "e", "a"}, {"a", "b", "b"}, {"a", ""}, {"a", "\xff"}, append(slices.Clone(six), "7"), make([]string, 1000)} {
		if IsList(l) {
			t.Errorf("P4: %q is no list", l)
		}
	}
}

func TestNumbers(t *testing.T) {
	for _, n := range []int{0, 1, 999999999998, 999999999999} {
		if !IsNumber(n) {
			t.Errorf("P4: %d is a number", n)
		}
	}
	for _, n := range []int{-1, 1000000000000, -1 << 63, 1<<63 - 1} {
		if IsNumber(n) {
			t.Errorf("P4: %d is no number", n)
		}
	}
}

func TestPrintRefusesEachField(t *testing.T) {
	for i, change := range []func(c *api.Claims){
		func(c *api.Claims) { c.Id = -1 },
		func(c *api.Claims) { c.Id = api.MaxNumber + 1 },
		func(c *api.Claims) { c.Expiry = -1 },
		func(c *api.Claims) { c.Expiry = api.MaxNumber + 1 },
		func(c *api.Claims) { c.Subject = "" },
		func(c *api.Claims) { c.Subject = "\xff" },
		func(c *api.Claims) { c.Subject = strings.Repeat("x", api.MaxName+1) },
		func(c *api.Claims) { c.Scopes = []string{"a", "a"} },
		func(c *api.Claims) { c.Targets = []string{"a", ""} },
		func(c *api.Claims) { c.Actors = numbered(api.MaxList + 1) },
		func(c *api.Claims) { c.Scopes = numbered(api.MaxList + 1) },
		func(c *api.Claims) { c.Targets = []string{"a", "b", "a"} },
		func(c *api.Claims) { c.Actors = []string{"\xc3"} },
	} {
		c := simple()
		change(&c)
		if text, errno := Print(c); text != "" || errno != api.ErrForm {
			t.Errorf("P4: change %d: Print = %q, %d", i, text, errno)
		}
	}
}

func TestPrintWritesEachByte(t *testing.T) {
	for b := range 128 {
		want := string(rune(b))
		switch {
		case b == '"' || b == '\\':
			want = `\` + want
		case b < 16:
			want = `\u000` + strconv.FormatInt(int64(b), 16)
		case b < 32:
			want = `\u00` + strconv.FormatInt(int64(b), 16)
		}
		c := api.Claims{Subject: string(rune(b))}
		text, errno := Print(c)
		if text != `{"jti":0,"sub":"`+want+`","scp":[],"aud":[],"act":[],"exp":0}` || errno != api.OK {
			t.Errorf("P4: Print of the subject %q = %s, %d", c.Subject, text, errno)
		}
		if back, errno := Parse(text); !same(back, c) || errno != api.OK {
			t.Errorf("P4: Parse(%s) = %+v, %d", text, back, errno)
		}
	}
}

func TestPrintThenParse(t *testing.T) {
	long := numbered(3*api.MaxList + 1)
	for _, c := range []api.Claims{
		simple(),
		{Id: api.MaxNumber, Subject: "\U0010ffff\u2028é", Expiry: api.MaxNumber},
		{Subject: long[18], Scopes: long[:6], Targets: long[6:12], Actors: long[12:18], Id: api.MaxNumber, Expiry: api.MaxNumber},
		{Subject: "x", Scopes: []string{"x"}, Targets: []string{"x"}, Actors: []string{"x"}},
	} {
		text, errno := Print(c)
		if errno != api.OK {
			t.Fatalf("P4: Print(%+v): %d", c, errno)
		}
		if back, errno := Parse(text); !same(back, c) || errno != api.OK {
			t.Errorf("P4: Parse(%s) = %+v, %d", text, back, errno)
		}
	}
	if text, _ := Print(simple()); text != simpleText {
		t.Errorf("P4: Print = %s", text)
	}
}

func TestParseTakesAnyOrder(t *testing.T) {
	members := strings.Split(`"jti":1;"sub":"ann";"scp":["r","w"];"aud":["t"];"act":[];"exp":9`, ";")
	var walk func(n int)
	walk = func(n int) {
		if n == len(members) {
			text := "{" + strings.Join(members, ",") + "}"
			if c, errno := Parse(text); !same(c, simple()) || errno != api.OK {
				t.Errorf("P4: Parse(%s) = %+v, %d", text, c, errno)
			}
		}
		for i := n; i < len(members); i++ {
			members[n], members[i] = members[i], members[n]
			walk(n + 1)
			members[n], members[i] = members[i], members[n]
		}
	}
	walk(0)
}

func TestEachNameIsNeeded(t *testing.T) {
	members := strings.Split(`"jti":1;"sub":"ann";"scp":["r","w"];"aud":["t"];"act":[];"exp":9`, ";")
	for chosen := range 1 << len(members) {
		var some []string
		for i, member := range members {
			if chosen>>i&1 == 1 {
				some = append(some, member)
			}
		}
		text := "{" + strings.Join(some, ",") + "}"
		c, errno := Parse(text)
		if whole := len(some) == len(members); whole != (errno == api.OK) || !whole && (errno != api.ErrForm || !isEmpty(c)) {
			t.Errorf("P4: Parse(%s) = %+v, %d", text, c, errno)
		}
	}
}

// signsOf answers the signs of simpleText.
func signsOf() []string {
	return strings.Split(`{ "jti" : 1 , "sub" : "ann" , "scp" : [ "r" , "w" ] , "aud" : [ "t" ] , "act" : [ ] , "exp" : 9 }`, " ")
}

func TestBlanksBetweenAnySigns(t *testing.T) {
	signs := signsOf()
	for at := range len(signs) + 1 {
		ahead, behind := strings.Join(signs[:at], ""), strings.Join(signs[at:], "")
		for _, blank := range []string{" ", "\t", "\n", "\r", " \t\r\n  "} {
			if c, errno := Parse(ahead + blank + behind); !same(c, simple()) || errno != api.OK {
				t.Errorf("P4: Parse with %q ahead of sign %d: %+v, %d", blank, at, c, errno)
			}
		}
		for _, other := range []string{"\v", "\f", "\u00a0", "\u2003", "\ufeff", "\x00", "\x1f", "\x85", "/**/", "x", ".", "-"} {
			if c, errno := Parse(ahead + other + behind); !isEmpty(c) || errno != api.ErrForm {
				t.Errorf("P4: Parse with %q ahead of sign %d: %+v, %d", other, at, c, errno)
			}
		}
	}
}

func TestNoBlanksInsideSigns(t *testing.T) {
	for _, text := range []string{around("jti", "1 0"), around("exp", "1\n0"), around("sub", `"\ u0041"`), around("sub", `"\u 0041"`), around("sub", `"\ud83d \ude00"`), strings.Replace(simpleText, `"jti"`, `"j ti"`, 1), strings.Replace(simpleText, `"jti"`, `" jti"`, 1)} {
		if c, errno := Parse(text); !isEmpty(c) || errno != api.ErrForm {
			t.Errorf("P4: Parse(%q) = %+v, %d", text, c, errno)
		}
	}
}

// TestEachSignIsNeeded leaves out, doubles and swaps signs, and puts each kind in the place of each other one.
func TestEachSignIsNeeded(t *testing.T) {
	refuse := func(signs []string) {
		t.Helper()
		text := strings.Join(signs, " ")
		if c, errno := Parse(text); !isEmpty(c) || errno != api.ErrForm {
			t.Errorf("P4: Parse(%s) = %+v, %d", text, c, errno)
		}
	}
	signs := signsOf()
	isItem := func(i int) bool {
		return i > 0 && i < len(signs)-1 && strings.HasPrefix(signs[i], `"`) && signs[i+1] != ":"
	}
	for i := range signs {
		without := slices.Delete(slices.Clone(signs), i, i+1)
		if signs[i] != `"t"` { // a list may lack its only item
			refuse(without)
		}
		refuse(slices.Insert(slices.Clone(signs), i, signs[i]))
		for _, other := range []string{"{", "}", "[", "]", ":", ",", "7", `"other"`, "null", "true", "{}", "[]"} {
			kept := other == signs[i] || other == "7" && (signs[i] == "1" || signs[i] == "9") || other == `"other"` && isItem(i)
			if !kept {
				changed := slices.Clone(signs)
				changed[i] = other
				refuse(changed)
			}
		}
		refuse(signs[:i])
		refuse(signs[i+1:])
	}
}

func TestNamesOfAnObject(t *testing.T) {
	for _, name := range []string{`"\u006A\u0074\u0069"`, `"j\u0074i"`, `"jt\u0069"`} {
		if c, errno := Parse(strings.Replace(simpleText, `"jti"`, name, 1)); !same(c, simple()) || errno != api.OK {
			t.Errorf("P4: Parse with the name %s: %+v, %d", name, c, errno)
		}
	}
	for _, name := range []string{`"Jti"`, `"JTI"`, `""`, `"jti "`, `"jtij"`, `"jt"`, `"sub"`, `"exp"`, `"iss"`, `jti`, `'jti'`, `1`, `"jti`, `"\jti"`, `"jti\u0000"`} {
		if c, errno := Parse(strings.Replace(simpleText, `"jti"`, name, 1)); !isEmpty(c) || errno != api.ErrForm {
			t.Errorf("P4: Parse with the name %s: %+v, %d", name, c, errno)
		}
	}
	for _, more := range []string{`"jti":1`, `"\u006ati":1`, `"sub":"ann"`, `"scp":[]`, `"act":[]`, `"x":1`, `"":""`} {
		for _, text := range []string{"{" + more + "," + simpleText[1:], strings.TrimSuffix(simpleText, "}") + "," + more + "}"} {
			if c, errno := Parse(text); !isEmpty(c) || errno != api.ErrForm {
				t.Errorf("P4: Parse(%s) = %+v, %d", text, c, errno)
			}
		}
	}
}

func TestNumbersInTexts(t *testing.T) {
	for value, want := range map[string]int{"0": 0, "1": 1, "10": 10, "1234567890": 1234567890, "999999999999": 999999999999} {
		if c, errno := Parse(around("jti", value)); c.Id != want || errno != api.OK {
			t.Errorf("P4: Parse with the id %s: %+v, %d", value, c, errno)
		}
		if c, errno := Parse(around("exp", value)); c.Expiry != want || errno != api.OK {
			t.Errorf("P4: Parse with the expiry %s: %+v, %d", value, c, errno)
		}
	}
	for _, value := range []string{"00", "01", "0000000000001", "-0", "-1", "+1", "1.", "1.0", ".5", "1e3", "1E3", "0x1", "1_0", "١", "1000000000000", "9223372036854775808", "18446744073709551617", strings.Repeat("9", 3000), strings.Repeat("0", 3000), `"1"`, "[1]", "[]", "null", "true", ""} {
		for _, name := range []string{"jti", "exp"} {
			if c, errno := Parse(around(name, value)); !isEmpty(c) || errno != api.ErrForm {
				t.Errorf("P4: Parse with %s %s: %+v, %d", name, value, c, errno)
			}
		}
	}
}

func TestStringsInTexts(t *testing.T) {
	for value, want := range map[string]string{
		`"\"\\\/\b\f\n\r\t"`:                     "\"\\/\b\f\n\r\t",
		`"\u0022\u005c\u005C"`:                   `"\\`,
		`"\u0000\u001f\u007f\u0080"`:             "\x00\x1f\x7f\u0080",
		`"\u07ff\u0800\ud7ff\ue000"`:             "\u07ff\u0800\ud7ff\ue000",
		`"\uabcd\uABCD\uAbCd"`:                   "\uabcd\uabcd\uabcd",
		`"\ufffd\ufffe\uFFFF"`:                   "\ufffd\ufffe\uffff",
		`"\ud800\udc00\uDBFF\uDFFF"`:             "\U00010000\U0010ffff",
		`"\ud83d\ude00\u0041"`:                   "😀A",
		"\"\ufffd\x7f/'é€😀\"":                    "\ufffd\x7f/'é€😀",
		`"[{,:}] 1"`:                             "[{,:}] 1",
		`"` + strings.Repeat("é", 8) + `"`:       strings.Repeat("é", 8),
		`"` + strings.Repeat(`\u0061`, 16) + `"`: strings.Repeat("a", 16),
	} {
		if c, errno := Parse(around("sub", value)); c.Subject != want || errno != api.OK {
			t.Errorf("P4: Parse with the subject %s: %q, %d", value, c.Subject, errno)
		}
		if c, errno := Parse(around("aud", "["+value+"]")); !slices.Equal(c.Targets, []string{want}) || errno != api.OK {
			t.Errorf("P4: Parse with the target %s: %q, %d", value, c.Targets, errno)
		}
	}
}

func TestWrongStringsInTexts(t *testing.T) {
	wrong := []string{
		`""`, `"` + strings.Repeat("x", 17) + `"`, `"` + strings.Repeat(`\u0061`, 17) + `"`, `"` + strings.Repeat("é", 8) + `x"`,
		`"\a"`, `"\v"`, `"\'"`, `"\0"`, `"\x41"`, `"\U0041"`, `"\B"`, `"\N"`, `"\é"`, `"\`, `"\"`, `"\\\"`,
		`"\u"`, `"\u0"`, `"\u00"`, `"\u004"`, `"\u004g"`, `"\u004G"`, `"\u00 1"`, `"\u-041"`, `"\u+041"`, `"\u0x41"`, `"\u{41}"`, `"\u/041"`, "\"\\u`041\"", `"\u@041"`, `"\u:041"`, `"\u00é"`,
		`"\ud800"`, `"\udbff"`, `"\ud800x"`, `"\ud800\"`, `"\ud800\u"`, `"\ud800\udc0"`, `"\ud800\n"`, `"\ud800\\udc00"`, `"\ud800\Udc00"`, `"\ud800udc00"`, `"\ud800\u0041"`, `"\ud800\ud800"`, `"\ud800\udbff"`, `"\ud800\ue000"`,
		`"\udc00"`, `"\udfff"`, `"\udc00\ud800"`, `"\udc00\udc00"`, `"x\udfffx"`,
		"\"\xff\"", "\"\x80\"", "\"a\xc3\"", "\"\xc3\\u00a9\"", "\"\xc3\\\"", "\"\xc0\x80\"", "\"\xed\xa0\x80\"", "\"\xed\xa0\x80\xed\xb0\x80\"", "\"\xf4\x90\x80\x80\"", "\"\xe2\x82\"",
		`'x'`, `x`, `"x`, `x"`, `"x" "y"`, `"x""y"`, `"x"y`, `null`, `true`, `{}`,
	}
	for b := range 32 {
		wrong = append(wrong, `"`+string(rune(b))+`"`, `"x`+string(rune(b))+`x"`, `"\`+string(rune(b))+`"`)
	}
	for _, value := range wrong {
		for _, text := range []string{around("sub", value), around("scp", "["+value+"]"), around("act", `["ok",`+value+"]")} {
			if c, errno := Parse(text); !isEmpty(c) || errno != api.ErrForm {
				t.Errorf("P4: Parse(%s) = %+v, %d", text, c, errno)
			}
		}
	}
}

func TestListsInTexts(t *testing.T) {
	for _, name := range []string{"scp", "aud", "act"} {
		for value, want := range map[string][]string{`[]`: nil, `["a"]`: {"a"}, `["b","a"]`: {"b", "a"}, `["1","2","3","4","5","6"]`: {"1", "2", "3", "4", "5", "6"}, `["a","A"]`: {"a", "A"}} {
			c, errno := Parse(around(name, value))
			got := map[string][]string{"scp": c.Scopes, "aud": c.Targets, "act": c.Actors}
			if !slices.Equal(got[name], want) || errno != api.OK {
				t.Errorf("P4: Parse with %s %s: %+v, %d", name, value, c, errno)
			}
		}
		for _, value := range []string{`["1","2","3","4","5","6","7"]`, `["a","a"]`, `["a","\u0061"]`, `["a","b","a"]`, `[""]`, `["a",""]`, `[,]`, `["a",]`, `[,"a"]`, `["a",,"b"]`, `["a" "b"]`, `["a":"b"]`, `[1]`, `["a",1]`, `[[]]`, `[["a"]]`, `[{}]`, `[null]`, `[`, `]`, `["a"`, `"a"]`, `["a"]]`, `[["a"]`, `["a"}`, `"a"`, `1`, `{}`, `null`, ``, `[` + strings.Repeat(`"a",`, 500) + `"a"]`} {
			if c, errno := Parse(around(name, value)); !isEmpty(c) || errno != api.ErrForm {
				t.Errorf("P4: Parse with %s %s: %+v, %d", name, value, c, errno)
			}
		}
	}
}

func TestLengthOfATextIsOfItsBytes(t *testing.T) {
	room := api.MaxText - len(simpleText)
	for _, text := range []string{strings.Repeat(" ", room) + simpleText, simpleText + strings.Repeat("\n", room)} {
		if c, errno := Parse(text); !same(c, simple()) || errno != api.OK {
			t.Errorf("P4: Parse of %d bytes: %+v, %d", len(text), c, errno)
		}
		if c, errno := Parse(text + " "); !isEmpty(c) || errno != api.ErrForm {
			t.Errorf("P4: Parse of %d bytes: %+v, %d", len(text)+1, c, errno)
		}
	}
}

// FuzzParse holds what Parse takes against the library's reader and against Print.
func FuzzParse(f *testing.F) {
	f.Add(simpleText)
	f.Add(" " + around("sub", `"\ud83d\ude00\u0041\n"`) + "\n")
	f.Add(around("sub", `"\ud800"`))
	f.Add(around("jti", "01"))
	f.Fuzz(func(t *testing.T, text string) { checkParse(t, text) })
}

func checkParse(t *testing.T, text string) {
	t.Helper()
	c, errno := Parse(text)
	if errno != api.OK {
		if errno != api.ErrForm || !isEmpty(c) {
			t.Fatalf("P1: Parse(%q) = %+v, %d", text, c, errno)
		}
		return
	}
	var w written
	if err := json.Unmarshal([]byte(text), &w); err != nil {
		t.Fatalf("P4: Parse takes %q: %v", text, err)
	}
	if !same(c, api.Claims{Id: w.Jti, Subject: w.Sub, Scopes: w.Scp, Targets: w.Aud, Actors: w.Act, Expiry: w.Exp}) {
		t.Fatalf("P4: Parse(%q) = %+v", text, c)
	}
	plain, errno := Print(c)
	back, again := Parse(plain)
	if errno != api.OK || again != api.OK || !same(back, c) {
		t.Fatalf("P4: %q is printed as %q, %d, and read as %+v, %d", text, plain, errno, back, again)
	}
}

// TestEachByteChanged takes the way of FuzzParse for every byte of a text.
func TestEachByteChanged(t *testing.T) {
	for _, text := range []string{simpleText, around("sub", `"\ud83d\ude00é\/"`)} {
		for i := range len(text) {
			checkParse(t, text[:i])
			checkParse(t, text[i:])
			checkParse(t, text[:i]+text[i+1:])
			for b := range 256 {
				checkParse(t, text[:i]+string([]byte{byte(b)})+text[i+1:])
				checkParse(t, text[:i]+string([]byte{byte(b)})+text[i:])
			}
		}
	}
}
