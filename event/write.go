package event

import (
	"strconv"
	"strings"

	"yankline/api"
	"yankline/code"
)

// What stands in a line: between its parts; there instead within a span; and where there is no note.
const (
	blank  = " "
	joint  = "_" // no span has one
	noNote = "-"
)

const digits = "0123456789abcdef"

// writing is how the parts of an event are written: as bytes, or in a line.
type writing struct {
	kind             func(api.Kind) string
	text, span, note func(string) string
	sum, number      func(uint64) string
}

// Bytes is the bytes of an event; ErrEvent, if e may not be.
func Bytes(e api.Event) (string, api.Errno) {
	if no := May(e); no != api.OK {
		return "", no
	}
	return strings.Join(asBytes().event(e), ""), api.OK
}

// Text is the line of an event; ErrEvent, if e may not be.
func Text(e api.Event) (string, api.Errno) {
	if no := May(e); no != api.OK {
		return "", no
	}
	return strings.Join(inLine().event(e), blank), api.OK
}

func asBytes() writing {
	kind := func(k api.Kind) string { return string([]byte{byte(k)}) }
	return writing{kind: kind, text: code.Text, span: code.Text, note: code.Text, sum: code.Word, number: code.Uint}
}

func inLine() writing {
	return writing{
		kind: func(k api.Kind) string { return words[k] },
		text: func(s string) string { return s },
		span: func(s string) string { return strings.ReplaceAll(s, blank, joint) },
		note: func(s string) string {
			if s == "" {
				return noNote
			}
			return hex(s)
		},
		sum:    func(x uint64) string { return hex(code.Word(x)) }, // layer 1's text, which is that of a word's bytes
		number: func(x uint64) string { return strconv.FormatUint(x, 10) },
	}
}

// event is the parts of e, which may be, in order.
func (w writing) event(e api.Event) []string {
	parts := []string{w.kind(e.Kind)}
	for _, f := range fieldsOf(e.Kind) {
		switch f {
		case whoField:
			parts = append(parts, w.text(e.Who))
		case nameField:
			parts = append(parts, w.text(e.Name))
		case versionField:
			parts = append(parts, w.text(e.Version))
		case needsField:
			parts = append(parts, w.needs(e.Needs)...)
		case sumField:
			parts = append(parts, w.sum(e.Sum))
		case nField:
			parts = append(parts, w.number(uint64(e.N)))
		case sizeField:
			parts = append(parts, w.number(uint64(e.Size)))
		case holderField:
			parts = append(parts, w.text(e.Holder))
		case memberField:
			parts = append(parts, w.text(e.Note))
		case noteField:
			parts = append(parts, w.note(e.Note))
		}
	}
	return parts
}

// needs is the parts of l.
func (w writing) needs(l []api.Need) []string {
	parts := []string{w.number(uint64(len(l)))}
	for _, n := range l {
		parts = append(parts, w.text(n.Name), w.span(n.Span))
	}
	return parts
}

// hex is the bytes of s as two digits each.
func hex(s string) string {
	var text []byte
	for i := range len(s) {
		text = append(text, digits[s[i]>>4], digits[s[i]&0xf])
	}
	return string(text)
}
