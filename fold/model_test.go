package fold_test

import (
	"errors"
	"fmt"
	"iter"
	"regexp"
	"slices"
	"strings"
	"testing"

	"yankline/api"
	"yankline/event"
	"yankline/fold"
)

// model is the events that fit, in order. All that is asked is worked out of them, anew each time.
type model []api.Event

// versions are those of the tests, rising.
func versions() []string {
	return []string{"0.9.0", "0.10.0", "1.0.0-0", "1.0.0-2", "1.0.0-10", "1.0.0-a", "1.0.0-a.0", "1.0.0-rc", "1.0.0", "1.0.1", "1.1.0", "1.9.0", "1.10.0", "2.0.0", "10.0.0"}
}

func (m model) Head() int { return len(m) }

func (m model) Account(who string) (uint64, bool) {
	for _, e := range m {
		if e.Kind == api.Account && e.Who == who {
			return e.Sum, true
		}
	}
	return 0, false
}

func (m model) Accounts() []string {
	return m.made(api.Account, func(e api.Event) string { return e.Who })
}

func (m model) Teams() []string {
	return m.made(api.Team, func(e api.Event) string { return e.Holder })
}

// made is the names of what events of a kind made, rising.
func (m model) made(kind api.Kind, name func(api.Event) string) []string {
	var l []string
	for _, e := range m {
		if e.Kind == kind {
			l = append(l, name(e))
		}
	}
	slices.Sort(l)
	return l
}

// there is whether there is an account or a team of that name.
func (m model) there(holder string) bool {
	return slices.Contains(m.Accounts(), holder) || slices.Contains(m.Teams(), holder)
}

func (m model) Members(team string) ([]string, bool) {
	var l []string
	for _, e := range m {
		switch {
		case e.Holder != team:
		case e.Kind == api.Team:
			l = append(l, e.Who)
		case e.Kind == api.Join:
			l = append(l, e.Note)
		case e.Kind == api.Leave:
			l = without(l, e.Note)
		}
	}
	slices.Sort(l)
	return l, slices.Contains(m.Teams(), team)
}

func without(l []string, s string) []string {
	return slices.DeleteFunc(l, func(other string) bool { return other == s })
}

func (m model) Packages() iter.Seq[string] { return slices.Values(m.packages()) }

func (m model) packages() []string {
	var l []string
	for _, e := range m {
		if e.Kind == api.Publish && !slices.Contains(l, e.Name) {
			l = append(l, e.Name)
		}
	}
	slices.Sort(l)
	return l
}

func (m model) Holders(name string) ([]string, bool) {
	var l []string
	is := false
	for _, e := range m {
		switch {
		case e.Name != name:
		case e.Kind == api.Publish && !is:
			l, is = append(l, e.Who), true
		case e.Kind == api.Own:
			l = append(l, e.Holder)
		case e.Kind == api.Disown:
			l = without(l, e.Holder)
		}
	}
	slices.Sort(l)
	return l, is
}

func (m model) Touched(name string) int {
	at := 0
	for i, e := range m {
		if e.Name == name && e.Name != "" {
			at = i + 1
		}
	}
	return at
}

func (m model) Release(name, version string) (api.Release, bool) {
	r, is := api.Release{}, false
	for i, e := range m {
		if e.Name != name || e.Version != version {
			continue
		}
		switch e.Kind {
		case api.Publish:
			r, is = api.Release{Version: version, By: e.Who, At: i + 1, Needs: e.Needs, Sum: e.Sum, N: e.N, Size: e.Size}, true
		case api.Yank, api.Unyank:
			r.Yanked = e.Kind == api.Yank
		case api.Deprecate:
			r.Note = e.Note
		}
	}
	return r, is
}

func (m model) Releases(name string) []api.Release {
	var l []api.Release
	for _, version := range versions() {
		if r, is := m.Release(name, version); is {
			l = append(l, r)
		}
	}
	return l
}

var (
	rawName    = regexp.MustCompile(`^[a-zA-Z0-9]([-_.a-zA-Z0-9]{0,62}[a-zA-Z0-9])?$`)
	separators = regexp.MustCompile(`[-_.]+`)
)

func (m model) Like(raw string) (string, bool) {
	if !rawName.MatchString(raw) {
		return "", false
	}
	form := separators.ReplaceAllString(strings.ToLower(raw), "-")
	for _, name := range m.packages() {
		if name != form && squash(name) == squash(form) {
			return name, true
		}
	}
	return "", false
}

func squash(form string) string { return strings.ReplaceAll(form, "-", "") }

// fits is whether e, which may be, fits.
func (m model) fits(e api.Event) bool {
	if e.Kind == api.Account {
		return !m.there(e.Who)
	}
	if !slices.Contains(m.Accounts(), e.Who) {
		return false
	}
	r, released := m.Release(e.Name, e.Version)
	holders, pack := m.Holders(e.Name)
	members, team := m.Members(e.Holder)
	switch e.Kind {
	case api.Publish:
		_, like := m.Like(e.Name)
		return !like && !released
	case api.Yank:
		return released && !r.Yanked
	case api.Unyank:
		return released && r.Yanked
	case api.Deprecate:
		return released && r.Note != e.Note
	case api.Own:
		return pack && m.there(e.Holder) && !slices.Contains(holders, e.Holder)
	case api.Disown:
		return pack && slices.Contains(holders, e.Holder)
	case api.Team:
		return !m.there(e.Holder)
	case api.Join:
		return team && slices.Contains(m.Accounts(), e.Note) && !slices.Contains(members, e.Note)
	}
	return team && slices.Contains(members, e.Note)
}

// teller is what tells of what events made: a state, or the model.
type teller interface {
	Head() int
	Accounts() []string
	Account(who string) (sum uint64, is bool)
	Teams() []string
	Members(team string) ([]string, bool)
	Packages() iter.Seq[string]
	Holders(name string) ([]string, bool)
	Touched(name string) int
	Releases(name string) []api.Release
	Release(name, version string) (api.Release, bool)
	Like(name string) (other string, is bool)
}

// said is all that s tells of the texts that are asked for, as lines.
func said(s teller) []string {
	l := []string{fmt.Sprint("all: ", s.Head(), s.Accounts(), s.Teams(), slices.Collect(s.Packages()))}
	for _, text := range asked() {
		sum, is := s.Account(text)
		members, team := s.Members(text)
		holders, pack := s.Holders(text)
		other, like := s.Like(text)
		l = append(l, fmt.Sprintf("%q: %d %t, %q %t, %q %t, %d, %q %t, %v", text, sum, is, members, team, holders, pack, s.Touched(text), other, like, s.Releases(text)))
		for _, version := range append(versions(), "", "1.0", "x") {
			r, is := s.Release(text, version)
			l = append(l, fmt.Sprintf("%q %s: %v %t", text, version, r, is))
		}
	}
	return l
}

// asked are the texts that are asked for: names of all kinds of things, other forms of such, and what is none's name.
func asked() []string {
	return []string{
		"alice", "bob", "carol", "dev", "ops", "foo", "f-oo", "fo-o", "bar-baz", "barbaz", "zoo", "a-b", "aa",
		"", "Foo", "F.OO", "f__oo", "foo-", "FOO", "Bar_Baz", "BARBAZ", "Alice", "DEV", "-", "\xff", "foo 1.0.0",
	}
}

// same holds that s tells what the model does.
func same(t *testing.T, what string, s *fold.State, m model) {
	t.Helper()
	want := said(m)
	for i, line := range said(s) {
		if line != want[i] {
			t.Errorf("%s: of %d events a state tells %s, want %s", what, len(m), line, want[i])
		}
	}
}

// read is the event whose line that is.
func read(line string) api.Event {
	e, no := event.ReadText(line)
	if no != api.OK {
		panic("no event's line: " + line)
	}
	return e
}

// events are those of the lines.
func events(lines ...string) []api.Event {
	var l []api.Event
	for _, line := range lines {
		l = append(l, read(line))
	}
	return l
}

// of is the state of the lines' events.
func of(t *testing.T, lines ...string) *fold.State {
	t.Helper()
	s, at, err := fold.Of(events(lines...)...)
	if err != nil || at != len(lines) {
		t.Fatalf("Of(%q) = %d, %v", lines, at, err)
	}
	return s
}

// faulty holds that err is the fault of that number, of that word and at that place, with nothing under it.
func faulty(t *testing.T, what string, err error, want api.Errno, word string, at int) {
	t.Helper()
	var f *api.Fault
	if !errors.As(err, &f) || *f != (api.Fault{Code: want, What: word, At: at}) || !errors.Is(err, want) {
		t.Errorf("%s: %v, want %v of %q at %d", what, err, want, word, at)
	}
}

// refused holds that s takes e not, by that error, and is not changed by that.
func refused(t *testing.T, s *fold.State, e api.Event, want api.Errno) {
	t.Helper()
	was, copied := said(s), s.Copy()
	word, _ := event.Word(e.Kind)
	faulty(t, fmt.Sprintf("Fits(%.200v)", e), s.Fits(e), want, word, -1)
	faulty(t, fmt.Sprintf("Apply(%.200v)", e), s.Apply(e), want, word, -1)
	if !slices.Equal(said(s), was) || !fold.Same(s, copied) {
		t.Errorf("what is refused, %.200v, changed the state", e)
	}
}

// taken holds that s takes e.
func taken(t *testing.T, s *fold.State, e api.Event) {
	t.Helper()
	was := said(s)
	if err := s.Fits(e); err != nil {
		t.Errorf("Fits(%v): %v", e, err)
	}
	if !slices.Equal(said(s), was) {
		t.Errorf("Fits(%v) changed the state", e)
	}
	if err := s.Apply(e); err != nil {
		t.Errorf("Apply(%v): %v", e, err)
	}
}
