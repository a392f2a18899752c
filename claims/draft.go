package claims

import "mandate/api"

// field is one of the claims, by the name that a text of claims has for it.
type field int

const (
	idField field = iota
	subjectField
	scopesField
	targetsField
	actorsField
	expiryField
	fieldCount
)

// draft is what has been read of claims so far.
type draft struct {
	claims  api.Claims
	current field // whose value comes next, or is being read
	named   [fieldCount]bool
}

// fieldOf answers the field of a name, and whether there is one.
func fieldOf(name string) (field, bool) {
	switch name {
	case "jti":
		return idField, true
	case "sub":
		return subjectField, true
	case "scp":
		return scopesField, true
	case "aud":
		return targetsField, true
	case "act":
		return actorsField, true
	case "exp":
		return expiryField, true
	}
	return 0, false
}

// begin turns to the field of a name. It refuses a name that is none, or came before.
func (d *draft) begin(name string) bool {
	f, ok := fieldOf(name)
	if !ok || d.named[f] {
		return false
	}
	d.current = f
	d.named[f] = true
	return true
}

// setNumber is refused where the field is no number.
func (d *draft) setNumber(n int) bool {
	switch d.current {
	case idField:
		d.claims.Id = n
	case expiryField:
		d.claims.Expiry = n
	default:
		return false
	}
	return true
}

// setText is refused where the field is no string.
func (d *draft) setText(text string) bool {
	if d.current != subjectField {
		return false
	}
	d.claims.Subject = text
	return true
}

// takesList tells whether the field is a list.
func (d *draft) takesList() bool {
	return d.current == scopesField || d.current == targetsField || d.current == actorsField
}

// addItem puts a text behind the list that the field is.
func (d *draft) addItem(text string) {
	switch d.current {
	case scopesField:
		d.claims.Scopes = append(d.claims.Scopes, text)
	case targetsField:
		d.claims.Targets = append(d.claims.Targets, text)
	case actorsField:
		d.claims.Actors = append(d.claims.Actors, text)
	}
}

// isWhole tells whether every field was named.
func (d *draft) isWhole() bool {
	for _, named := range d.named {
		if !named {
			return false
		}
	}
	return true
}
