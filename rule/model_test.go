package rule_test

import (
	"errors"
	"slices"
	"strings"
	"testing"

	"yankline/api"
	"yankline/event"
	"yankline/fold"
	"yankline/rule"
)

// model is events, all of which fit, in order. Whatever is asked is worked out of them anew.
type model []api.Event

// need is something that an event needs: whether it is so, and what is told if it is not.
type need struct {
	so bool
	no api.Errno
	of string
}

// has is whether it is so of one of the events.
func (m model) has(so func(api.Event) bool) bool { return slices.ContainsFunc(m, so) }

func (m model) account(who string) bool {
	return m.has(func(e api.Event) bool { return e.Kind == api.Account && e.Who == who })
}

func (m model) sum(n uint64) bool {
	return m.has(func(e api.Event) bool { return e.Kind == api.Account && e.Sum == n })
}

func (m model) team(holder string) bool {
	return m.has(func(e api.Event) bool { return e.Kind == api.Team && e.Holder == holder })
}

// named is whether there is an account or a team of that name.
func (m model) named(holder string) bool { return m.account(holder) || m.team(holder) }

func (m model) pack(name string) bool {
	return m.has(func(e api.Event) bool { return e.Kind == api.Publish && e.Name == name })
}

func (m model) released(name, version string) bool {
	return m.has(func(e api.Event) bool { return e.Kind == api.Publish && e.Name == name && e.Version == version })
}

// like is the package of the same squash and another name; nothing, if there is none.
func (m model) like(name string) string {
	for _, e := range m {
		if e.Kind == api.Publish && e.Name != name && squash(e.Name) == squash(name) {
			return e.Name
		}
	}
	return ""
}

func squash(form string) string { return strings.ReplaceAll(form, "-", "") }

// last is the last event of which it is so; one of no kind, if there is none.
func (m model) last(so func(api.Event) bool) api.Event {
	for _, e := range slices.Backward(m) {
		if so(e) {
			return e
		}
	}
	return api.Event{}
}

// yanked and note are those of a release.
func (m model) yanked(name, version string) bool {
	return m.last(func(e api.Event) bool {
		return (e.Kind == api.Yank || e.Kind == api.Unyank) && e.Name == name && e.Version == version
	}).Kind == api.Yank
}

func (m model) note(name, version string) string {
	return m.last(func(e api.Event) bool { return e.Kind == api.Deprecate && e.Name == name && e.Version == version }).Note
}

// in is whether who is in the team, by the last event that says so, or not so.
func (m model) in(who, team string) bool {
	k := m.last(func(e api.Event) bool {
		return e.Holder == team && (e.Kind == api.Team && e.Who == who || (e.Kind == api.Join || e.Kind == api.Leave) && e.Note == who)
	}).Kind
	return k == api.Team || k == api.Join
}

// holds is whether the holder is one of the package.
func (m model) holds(holder, name string) bool {
	first := slices.IndexFunc(m, func(e api.Event) bool { return e.Kind == api.Publish && e.Name == name })
	k := m.last(func(e api.Event) bool {
		return (e.Kind == api.Own || e.Kind == api.Disown) && e.Name == name && e.Holder == holder
	}).Kind
	return k == api.Own || k == api.NoEvent && first >= 0 && m[first].Who == holder
}

func (m model) owns(who, name string) bool {
	return m.account(who) && (m.holds(who, name) || m.has(func(e api.Event) bool {
		return e.Kind == api.Team && m.holds(e.Holder, name) && m.in(who, e.Holder)
	}))
}

// owned is whether somebody owns the package.
func (m model) owned(name string) bool {
	return m.has(func(e api.Event) bool { return e.Kind == api.Account && m.owns(e.Who, name) })
}

// orphan is the first of the packages, by names rising, that the team holds and nobody owns; nothing, if there is none.
func (m model) orphan(team string) string {
	var l []string
	for _, e := range m {
		if e.Kind == api.Publish && m.holds(team, e.Name) && !m.owned(e.Name) {
			l = append(l, e.Name)
		}
	}
	if l == nil {
		return ""
	}
	return slices.Min(l)
}

// behind is what there would be behind one more event, whether it fits or not.
func (m model) behind(e api.Event) model { return append(m[:len(m):len(m)], e) }

// needs are what e needs by its kind, in the chapter's order.
func (m model) needs(e api.Event) []need {
	pack, owner := need{m.pack(e.Name), api.ErrNone, ""}, need{m.owns(e.Who, e.Name), api.ErrOwner, ""}
	team, member := need{m.team(e.Holder), api.ErrNone, ""}, need{m.in(e.Who, e.Holder), api.ErrMember, ""}
	release := need{m.released(e.Name, e.Version), api.ErrNone, ""}
	switch e.Kind {
	case api.Account:
		return []need{{!m.named(e.Who), api.ErrThere, ""}, {!m.sum(e.Sum), api.ErrThere, ""}}
	case api.Publish:
		reserved := slices.Contains([]string{"yankline", "registry", "index", "log", "page", "blob"}, squash(e.Name))
		like := m.like(e.Name)
		return []need{{!reserved, api.ErrReserved, ""}, {like == "", api.ErrLike, like}, {!pack.so || owner.so, api.ErrOwner, ""}, {!release.so, api.ErrThere, ""}}
	case api.Yank:
		return []need{pack, owner, release, {!m.yanked(e.Name, e.Version), api.ErrThere, ""}}
	case api.Unyank:
		return []need{pack, owner, release, {m.yanked(e.Name, e.Version), api.ErrThere, ""}}
	case api.Deprecate:
		return []need{pack, owner, release, {m.note(e.Name, e.Version) != e.Note, api.ErrThere, ""}}
	case api.Own:
		return []need{pack, owner, {m.named(e.Holder), api.ErrNone, ""}, {!m.holds(e.Holder, e.Name), api.ErrThere, ""}}
	case api.Disown:
		return []need{pack, owner, {m.holds(e.Holder, e.Name), api.ErrNone, ""}, {m.behind(e).owned(e.Name), api.ErrLast, ""}}
	case api.Team:
		return []need{{!m.named(e.Holder), api.ErrThere, ""}}
	case api.Join:
		return []need{team, member, {m.account(e.Note), api.ErrNone, ""}, {!m.in(e.Note, e.Holder), api.ErrThere, ""}}
	}
	orphan := m.behind(e).orphan(e.Holder)
	return []need{team, member, {m.in(e.Note, e.Holder), api.ErrNone, ""}, {orphan == "", api.ErrLast, orphan}}
}

// why is the number of the first thing that e, which may be, needs and that is not so, and what is told with it.
func (m model) why(e api.Event) (api.Errno, string) {
	if e.Kind != api.Account && !m.account(e.Who) {
		return api.ErrWho, ""
	}
	for _, n := range m.needs(e) {
		if !n.so {
			return n.no, n.of
		}
	}
	return api.OK, ""
}

// word is that of e's kind, by its line, so that it is told apart from what is tested.
func word(e api.Event) string {
	line, _ := event.Text(e)
	word, _, _ := strings.Cut(line, " ")
	return word
}

// faulty holds that err is the fault by which an event of that word is refused, at that place, over the fault of that number, of that text.
func faulty(t *testing.T, what string, err error, word string, at int, no api.Errno, of string) {
	t.Helper()
	var f, under *api.Fault
	if !errors.As(err, &f) || f.Code != api.ErrRefused || f.What != word || f.At != at ||
		!errors.As(f.Under, &under) || *under != (api.Fault{Code: no, What: of, At: -1}) {
		t.Errorf("%s: %v, want %v of %q at %d over %v of %q", what, err, api.ErrRefused, word, at, no, of)
	}
	if !errors.Is(err, api.ErrRefused) || !errors.Is(err, no) || !slices.Equal(rule.Codes(err), []api.Errno{api.ErrRefused, no}) {
		t.Errorf("%s: %v, whose numbers are %v", what, err, rule.Codes(err))
	}
}

// refused holds that neither call takes e, an event of that word, by that number and text, and that s is not changed.
func refused(t *testing.T, what string, s *fold.State, e api.Event, word string, no api.Errno, of string) {
	t.Helper()
	was := s.Copy()
	faulty(t, what+": Check", rule.Check(s, e), word, -1, no, of)
	faulty(t, what+": Do", rule.Do(s, e), word, -1, no, of)
	if !fold.Same(s, was) {
		t.Errorf("%s: what is refused changed the state", what)
	}
}

// asked holds that Check tells of e, which may be, what the model does, and changes nothing.
func asked(t *testing.T, s *fold.State, m model, e api.Event) {
	t.Helper()
	err := rule.Check(s, e)
	if no, of := m.why(e); no != api.OK {
		faulty(t, text(e), err, word(e), -1, no, of)
	} else if err != nil {
		t.Errorf("Check(%s): %v", text(e), err)
	} else if err := s.Fits(e); err != nil {
		t.Errorf("Check takes %s, that does not fit: %v", text(e), err)
	}
}

// taken holds that s takes e, and is as e makes it then.
func taken(t *testing.T, s *fold.State, e api.Event) {
	t.Helper()
	was, made := s.Copy(), s.Copy()
	if err := rule.Check(s, e); err != nil || !fold.Same(s, was) {
		t.Errorf("Check(%s): %v, or it changed the state", text(e), err)
	}
	if err := made.Apply(e); err != nil {
		t.Errorf("Apply(%s): %v", text(e), err)
	}
	if err := rule.Do(s, e); err != nil || !fold.Same(s, made) {
		t.Errorf("Do(%s): %v, or it did not make what Apply makes", text(e), err)
	}
}

// text is the line of e.
func text(e api.Event) string {
	line, _ := event.Text(e)
	return line
}

// read is the event whose line that is.
func read(line string) api.Event {
	e, no := event.ReadText(line)
	if no != api.OK {
		panic("no event's line: " + line)
	}
	return e
}

// publish is the line of such an event.
func publish(who, name, version string) string {
	return "publish " + who + " " + name + " " + version + " 0 0000000000000001 1 1"
}

// events are those of the lines.
func events(lines ...string) model {
	var m model
	for _, line := range lines {
		m = append(m, read(line))
	}
	return m
}

// of is the state that the events make, allowed or not.
func of(t *testing.T, m model) *fold.State {
	t.Helper()
	s, at, err := fold.Of(m...)
	if err != nil {
		t.Fatalf("Of: event %d of %v: %v", at, m, err)
	}
	return s
}
