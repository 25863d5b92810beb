package event

import (
	"slices"
	"strconv"
	"strings"

	"yankline/api"
	"yankline/code"
)

// line is what is left of a line. Its calls take parts that no event's line has, too: that a line is an event's is asked when all of it is read.
type line struct{ rest string }

// ReadText is the event whose line s is; ErrEvent, if s is none's.
func ReadText(s string) (api.Event, api.Errno) {
	e, err := outOfLine(s).event()
	text, no := Text(e)
	if err != nil || no != api.OK || text != s { // an event has one line
		return api.Event{}, api.ErrEvent
	}
	return e, api.OK
}

func outOfLine(s string) reading {
	l := &line{s}
	return reading{kind: l.kind, text: l.text, span: l.span, note: l.note, sum: l.sum, number: l.number}
}

// part is what stands ahead of the next blank.
func (l *line) part() string {
	var part string
	part, l.rest, _ = strings.Cut(l.rest, blank)
	return part
}

// kind is the kind of a word; none, if it is no kind's.
func (l *line) kind() (api.Kind, error) {
	part := l.part()
	for k, word := range words {
		if word == part {
			return api.Kind(k), nil
		}
	}
	return api.NoEvent, nil
}

func (l *line) text() (string, error) { return l.part(), nil }

func (l *line) span() (string, error) { return strings.ReplaceAll(l.part(), joint, blank), nil }

func (l *line) note() (string, error) {
	part := l.part()
	if part == noNote {
		return "", nil
	}
	return unhex(part)
}

func (l *line) sum() (uint64, error) {
	word, err := unhex(l.part())
	if err != nil {
		return 0, err
	}
	return code.New(word).Word()
}

func (l *line) number(most uint64) (uint64, error) {
	x, err := strconv.ParseUint(l.part(), 10, 64)
	if err == nil && x > most {
		return 0, api.ErrEvent
	}
	return x, err
}

// unhex is the bytes that hex writes so.
func unhex(s string) (string, error) {
	if len(s) > 2*api.MaxNote { // ahead of going through s, which may be of any length
		return "", api.ErrEvent
	}
	var text []byte
	for two := range slices.Chunk([]byte(s), 2) {
		b, err := strconv.ParseUint(string(two), 16, 8)
		if err != nil {
			return "", err
		}
		text = append(text, byte(b))
	}
	return string(text), nil
}
