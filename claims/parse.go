package claims

import "mandate/api"

// state is the kind of what may come next in a text of claims.
type state int

const (
	wantObject state = iota
	wantName
	wantColon
	wantValue
	wantItemOrListEnd // right behind the bracket: the list may have no item
	wantItem
	wantCommaOrListEnd
	wantCommaOrObjectEnd
	wantEnd
)

// Parse is Read, but for texts of more than MaxText bytes: these are ErrForm, too.
func Parse(text string) (api.Claims, api.Errno) {
	if len(text) > api.MaxText {
		return api.Claims{}, api.ErrForm
	}
	return Read(text)
}

// Read answers the claims that text, however long, is a text of; ErrForm, if there are none.
func Read(text string) (api.Claims, api.Errno) {
	c, ok := readObject(text)
	if !ok || !areClaims(c) {
		return api.Claims{}, api.ErrForm
	}
	return c, api.OK
}

// readObject is the machine: a sign that may come leads by goto to what may come behind it, any other one falls out of the switch.
func readObject(text string) (api.Claims, bool) {
	scan := scanner{text: text}
	var got draft
	want := wantObject
step:
	s := scan.next()
	switch {
	case want == wantObject && s.kind == openObject:
		want = wantName
		goto step
	case want == wantName && s.kind == textSign && got.begin(s.text):
		want = wantColon
		goto step
	case want == wantColon && s.kind == colonSign:
		want = wantValue
		goto step
	case want == wantValue && s.kind == numberSign && got.setNumber(s.number):
		want = wantCommaOrObjectEnd
		goto step
	case want == wantValue && s.kind == textSign && got.setText(s.text):
		want = wantCommaOrObjectEnd
		goto step
	case want == wantValue && s.kind == openList && got.takesList():
		want = wantItemOrListEnd
		goto step
	case (want == wantItemOrListEnd || want == wantItem) && s.kind == textSign:
		got.addItem(s.text)
		want = wantCommaOrListEnd
		goto step
	case want == wantCommaOrListEnd && s.kind == commaSign:
		want = wantItem
		goto step
	case (want == wantItemOrListEnd || want == wantCommaOrListEnd) && s.kind == closeList:
		want = wantCommaOrObjectEnd
		goto step
	case want == wantCommaOrObjectEnd && s.kind == commaSign:
		want = wantName
		goto step
	case want == wantCommaOrObjectEnd && s.kind == closeObject:
		want = wantEnd
		goto step
	case want == wantEnd && s.kind == endSign && got.isWhole():
		return got.claims, true
	}
	return api.Claims{}, false
}
