package event

import (
	"errors"
	"math"

	"yankline/api"
	"yankline/code"
)

// longest is how many bytes a text may have while it is read. No event's text may have as many: that is told when all of it is read.
const longest = 1 << 16

// reading is how the parts of an event are read: out of bytes, or out of a line; each call takes one from the front.
type reading struct {
	kind             func() (api.Kind, error)
	text, span, note func() (string, error)
	sum              func() (uint64, error)
	number           func(most uint64) (uint64, error)
}

// Read is the event whose bytes s is. Its error is ErrEvent, over that of layer 2, if that was it.
func Read(s string) (api.Event, error) {
	r := code.New(s)
	e, err := outOfBytes(r).event()
	if err == nil {
		err = r.End()
	}
	if err == nil && May(e) != api.OK {
		err = api.ErrEvent
	}
	switch {
	case err == nil:
		return e, nil
	case errors.Is(err, api.ErrEvent): // no fault of the reader's: what was read is no event
		return api.Event{}, &api.Fault{Code: api.ErrEvent, At: 0}
	}
	return api.Event{}, &api.Fault{Code: api.ErrEvent, At: r.At(), Under: err} // the reader stays where its fault is
}

func outOfBytes(r *code.Reader) reading {
	kind := func() (api.Kind, error) {
		b, err := r.Byte()
		return api.Kind(b), err
	}
	text := func() (string, error) { return r.Text(longest) }
	return reading{kind: kind, text: text, span: text, note: text, sum: r.Word, number: r.Uint}
}

// event is an event, which may be or not, as far as it could be read, and the first error: ErrEvent of a kind that is none, behind which nothing is read.
func (r reading) event() (api.Event, error) {
	var e api.Event
	var first error
	take := func(part func() error) {
		if first == nil {
			first = part()
		}
	}
	parts := [...]func() error{
		whoField:     into(&e.Who, r.text),
		nameField:    into(&e.Name, r.text),
		versionField: into(&e.Version, r.text),
		needsField:   into(&e.Needs, r.needs),
		sumField:     into(&e.Sum, r.sum),
		nField:       into(&e.N, r.short),
		sizeField:    into(&e.Size, r.short),
		holderField:  into(&e.Holder, r.text),
		memberField:  into(&e.Note, r.text),
		noteField:    into(&e.Note, r.note),
	}
	take(into(&e.Kind, r.kind))
	if first == nil && !isKind(e.Kind) {
		first = api.ErrEvent
	}
	for _, f := range fieldsOf(e.Kind) {
		take(parts[f])
	}
	return e, first
}

// into is a call that takes a part and puts it where it belongs.
func into[T any](to *T, part func() (T, error)) func() error {
	return func() (err error) {
		*to, err = part()
		return err
	}
}

// short is a number of 32 bits.
func (r reading) short() (uint32, error) {
	x, err := r.number(math.MaxUint32)
	return uint32(x), err
}

// needs is a list of needs, which grows as they are met.
func (r reading) needs() ([]api.Need, error) {
	n, err := r.number(api.MaxNeeds)
	if err != nil {
		return nil, err
	}
	var l []api.Need
	for range n {
		var need api.Need
		if need.Name, err = r.text(); err != nil {
			return nil, err
		}
		if need.Span, err = r.span(); err != nil {
			return nil, err
		}
		l = append(l, need)
	}
	return l, nil
}
