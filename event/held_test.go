package event_test

import (
	"slices"
	"testing"

	"yankline/api"
	"yankline/event"
)

// call does each of the calls that take an event.
func call(a, b api.Event) {
	event.May(a)
	event.Bytes(a)
	event.Text(a)
	event.About(a)
	event.Word(a.Kind)
	event.Same(a, b)
	event.Same(b, a)
}

// What is handed in stays as it was, its spare room too, and the one list that two events have in common.
func TestP01HandedIn(t *testing.T) {
	for _, l := range [][]api.Need{
		{{Name: "b", Span: "*"}, {Name: "a", Span: "1.0.0"}, {Name: "b", Span: ">=1.0.0 <2.0.0"}, {Name: "spare"}},
		{{Name: "a", Span: ">=1.0.0 <2.0.0"}, {Name: "b", Span: "*"}, {Name: "c", Span: "!"}, {Name: "spare"}},
	} {
		for n := range l {
			for _, e := range ordinary() {
				room := slices.Clone(l)
				e.Needs = room[:n]
				was := e
				call(e, publish())
				call(e, e)
				if !slices.Equal(room, l) || !same(e, was) {
					t.Errorf("a call changed %v: %v", was, room)
				}
			}
		}
	}
}

// overwrite writes over the needs of an event, their spare room too.
func overwrite(e api.Event) {
	l := e.Needs[:cap(e.Needs)]
	for i := range l {
		l[i] = api.Need{Name: "written over", Span: "!"}
	}
}

// An answer may be written over, its spare room too: no other one changes.
func TestP01NewMemory(t *testing.T) {
	for _, e := range valid() {
		s, line := bytesOf(e), lineOf(e)
		read := func() api.Event {
			got, err := event.Read(s)
			if err != nil {
				t.Errorf("Read of the bytes of %s: %v", told(e), err)
			}
			return got
		}
		readText := func() api.Event {
			got, no := event.ReadText(line)
			if no != api.OK {
				t.Errorf("ReadText of the line of %s: %v", told(e), no)
			}
			return got
		}
		l := []api.Event{read(), read(), readText(), readText(), read(), readText()}
		for i := range l {
			overwrite(l[i])
			for _, other := range append(l[i+1:], read(), readText()) {
				if !same(other, e) {
					t.Errorf("two answers for %s share memory", told(e))
				}
			}
		}
	}
}

// Faults are new ones, too.
func TestP01NewFaults(t *testing.T) {
	for _, s := range []string{"", "\x03\x01", "\x0b", "\x03\x01A\x01b\x051.0.0"} {
		_, first := event.Read(s)
		want := first.Error()
		*first.(*api.Fault) = api.Fault{Code: api.ErrNil}
		if _, second := event.Read(s); second.Error() != want {
			t.Errorf("two faults of Read(%q) share memory", s)
		}
	}
}

// A call answers the same whatever was called before.
func TestP01Again(t *testing.T) {
	for range 2 {
		for _, e := range all() {
			call(e, publish())
		}
		for _, e := range valid() {
			reads(t, bytesOf(e))
			reads(t, bytesOf(e)[1:])
			readsText(t, lineOf(e))
			readsText(t, lineOf(e)[1:])
		}
		mayBe(t, publish(), bytesOf(publish()), "publish alice foo 1.0.0 1 bar >=1.0.0_<2.0.0-0 0000000000000000 1 3")
	}
}
