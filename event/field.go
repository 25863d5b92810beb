package event

import (
	"slices"

	"yankline/api"
	"yankline/name"
	"yankline/span"
	"yankline/version"
)

// field is a part of an event.
type field int

// The fields, in the order in which each kind names those it has. An event's Note is two of them: of some kinds it names somebody, of another one it is any bytes.
const (
	whoField field = iota
	nameField
	versionField
	needsField
	sumField
	nField
	sizeField
	holderField
	memberField
	noteField
)

// fieldsOf is the fields that a kind names, in order; none, if k is no kind.
func fieldsOf(k api.Kind) []field {
	var l []field
	switch k {
	case api.Publish:
		l = append(l, nameField, versionField, needsField, nField, sizeField)
		fallthrough
	case api.Account:
		l = append(l, whoField, sumField)
	case api.Deprecate:
		l = append(l, noteField)
		fallthrough
	case api.Yank, api.Unyank:
		l = append(l, whoField, nameField, versionField)
	case api.Own, api.Disown:
		l = append(l, whoField, nameField, holderField)
	case api.Join, api.Leave:
		l = append(l, memberField)
		fallthrough
	case api.Team:
		l = append(l, whoField, holderField)
	}
	slices.Sort(l)
	return l
}

// isKind is whether k is a kind of events: each of them names somebody.
func isKind(k api.Kind) bool { return len(fieldsOf(k)) > 0 }

// spare is whether e has something that its kind does not name.
func spare(e api.Event) bool {
	for _, f := range fieldsOf(e.Kind) {
		switch f {
		case whoField:
			e.Who = ""
		case nameField:
			e.Name = ""
		case versionField:
			e.Version = ""
		case needsField:
			e.Needs = nil
		case sumField:
			e.Sum = 0
		case nField:
			e.N = 0
		case sizeField:
			e.Size = 0
		case holderField:
			e.Holder = ""
		case memberField, noteField:
			e.Note = ""
		}
	}
	return !Same(e, api.Event{Kind: e.Kind})
}

// fits is whether what e has as a field may stand there.
func fits(e api.Event, f field) bool {
	switch f {
	case whoField:
		return name.Holder(e.Who) == api.OK
	case nameField:
		return name.Is(e.Name)
	case versionField:
		return version.Is(e.Version)
	case needsField:
		return fitNeeds(e.Needs)
	case nField:
		return e.N >= 1
	case sizeField:
		return e.Size <= api.MaxBytes
	case holderField:
		return name.Holder(e.Holder) == api.OK
	case memberField:
		return name.Holder(e.Note) == api.OK
	case noteField:
		return len(e.Note) <= api.MaxNote
	}
	return true // any sum may
}

// fitNeeds is whether l may be what a version needs.
func fitNeeds(l []api.Need) bool {
	if len(l) > api.MaxNeeds { // ahead of going through l, which may be of any length
		return false
	}
	last := "" // below all names
	for _, n := range l {
		if n.Name <= last || !name.Is(n.Name) || !span.Is(n.Span) {
			return false
		}
		last = n.Name
	}
	return true
}
