package team_test

import (
	"slices"
	"strconv"
	"testing"

	"yankline/api"
	"yankline/event"
	"yankline/fold"
	"yankline/team"
)

// model is events, all of which fit, in order. Whatever is asked is worked out of them anew, by the last one that speaks of it.
type model []api.Event

// in is whether who is in the team.
func (m model) in(who, team string) bool {
	in := false
	for _, e := range m {
		switch {
		case e.Kind == api.Team && e.Holder == team && e.Who == who, e.Kind == api.Join && e.Holder == team && e.Note == who:
			in = true
		case e.Kind == api.Leave && e.Holder == team && e.Note == who:
			in = false
		}
	}
	return in
}

// holds is whether the holder is one of the package.
func (m model) holds(holder, name string) bool {
	holds, there := false, false
	for _, e := range m {
		switch {
		case e.Name != name:
		case e.Kind == api.Publish:
			holds = holds || !there && e.Who == holder
			there = true
		case e.Kind == api.Own && e.Holder == holder:
			holds = true
		case e.Kind == api.Disown && e.Holder == holder:
			holds = false
		}
	}
	return holds
}

// owns is whether who is an account, and owns the package by that holder.
func (m model) owns(who, name, holder string) bool {
	return slices.Contains(m.accounts(), who) && m.holds(holder, name) && (who == holder || m.in(who, holder))
}

func (m model) accounts() []string {
	return m.made(api.Account, func(e api.Event) string { return e.Who })
}

func (m model) teams() []string {
	return m.made(api.Team, func(e api.Event) string { return e.Holder })
}

func (m model) packages() []string {
	return m.made(api.Publish, func(e api.Event) string { return e.Name })
}

// made is the names of what events of a kind made, rising, each once.
func (m model) made(kind api.Kind, name func(api.Event) string) []string {
	var l []string
	for _, e := range m {
		if e.Kind == kind {
			l = append(l, name(e))
		}
	}
	slices.Sort(l)
	return slices.Compact(l)
}

// those are the ones of l of which it is so.
func those(l []string, so func(string) bool) []string {
	var found []string
	for _, s := range l {
		if so(s) {
			found = append(found, s)
		}
	}
	return found
}

func (m model) Without(name, holder string) []string {
	return those(m.accounts(), func(who string) bool {
		return slices.ContainsFunc(m.Why(who, name), func(by string) bool { return by != holder })
	})
}

func (m model) Owners(name string) []string {
	return those(m.accounts(), func(who string) bool { return len(m.Why(who, name)) > 0 })
}

func (m model) Why(who, name string) []string {
	holders := append(m.accounts(), m.teams()...)
	slices.Sort(holders)
	return those(holders, func(holder string) bool { return m.owns(who, name, holder) })
}

func (m model) Names(who string) []string {
	return those(m.packages(), func(name string) bool { return len(m.Why(who, name)) > 0 })
}

func (m model) Teams(who string) []string {
	return those(m.teams(), func(team string) bool { return m.in(who, team) })
}

// asked are the texts that are asked for: names of all kinds of things, other forms of such, and what is none's name.
func asked() []string {
	return []string{
		"alice", "bob", "carol", "zed", "a", "dev", "ops", "web", "foo", "bar-baz", "zoo", "b",
		"", "Alice", "ALICE", "alice ", "alic", "DEV", "Foo", "FOO", "F.OO", "f-oo", "bar_baz", "barbaz", "-", "\x00", "\xff", "foo 1.0.0",
	}
}

// equal holds that a list is the one that is wanted; none and empty mean the same.
func equal(t *testing.T, what string, got, want []string) {
	t.Helper()
	if !slices.Equal(got, want) {
		t.Errorf("%s = %q, want %q", what, got, want)
	}
}

// told holds that of all texts that are asked for a state tells what the model does.
func told(t *testing.T, what string, s *fold.State, m model) {
	t.Helper()
	for _, a := range asked() {
		of := what + ", of " + strconv.Quote(a)
		equal(t, of+": Owners", team.Owners(s, a), m.Owners(a))
		equal(t, of+": Names", team.Names(s, a), m.Names(a))
		equal(t, of+": Teams", team.Teams(s, a), m.Teams(a))
		for _, b := range asked() {
			of, why := of+" and "+strconv.Quote(b), m.Why(a, b)
			equal(t, of+": Why", team.Why(s, a, b), why)
			if got := team.Owns(s, a, b); got != (len(why) > 0) {
				t.Errorf("%s: Owns = %t, by %q", of, got, why)
			}
			equal(t, of+": Without", team.Without(s, a, b), m.Without(a, b))
		}
	}
}

// read is the event whose line that is.
func read(line string) api.Event {
	e, no := event.ReadText(line)
	if no != api.OK {
		panic("no event's line: " + line)
	}
	return e
}

// account, publish are the lines of such events.
func account(who string) string { return "account " + who + " 0000000000000001" }

func publish(who, name, version string) string {
	return "publish " + who + " " + name + " " + version + " 0 0000000000000001 1 1"
}

// events are those of the lines.
func events(lines ...string) model {
	var m model
	for _, line := range lines {
		m = append(m, read(line))
	}
	return m
}

// of is the state of the events.
func of(t *testing.T, m model) *fold.State {
	t.Helper()
	s, at, err := fold.Of(m...)
	if err != nil {
		t.Fatalf("Of: event %d of %v: %v", at, m, err)
	}
	return s
}
