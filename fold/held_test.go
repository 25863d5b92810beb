package fold_test

import (
	"fmt"
	"slices"
	"testing"

	"yankline/api"
	"yankline/fold"
)

// Of no state, and of one that no call made, nothing is told, and nothing is done to it.
func TestP01Nil(t *testing.T) {
	for _, s := range []*fold.State{nil, {}, new(fold.State)} {
		for _, e := range append(events(base()...), api.Event{}, api.Event{Kind: 77}) {
			faulty(t, "Fits", s.Fits(e), api.ErrNil, "", -1)
			faulty(t, "Apply", s.Apply(e), api.ErrNil, "", -1)
		}
		same(t, "no state", s, nil)
		for range s.Packages() {
			t.Error("no state has a package")
		}
		if c := s.Copy(); c != nil {
			t.Errorf("a copy of no state is %v", c)
		}
		for _, other := range []*fold.State{nil, {}, s, fold.New()} {
			if fold.Same(s, other) || fold.Same(other, s) {
				t.Error("no state is the same as another one")
			}
		}
	}
}

// needy are events whose needs stand in lists with room behind them.
func needy() []api.Event {
	l := events("account alice 0000000000000001", "publish alice foo 1.0.0 2 aa * foo =1.0.0 0000000000000001 1 1", "publish alice foo 1.1.0 0 0000000000000001 1 1", "publish alice foo 0.9.0 1 zoo ! 0000000000000001 1 1")
	for i := range l {
		l[i].Needs = append(slices.Clip(slices.Clone(l[i].Needs)), api.Need{Name: "spare"}, api.Need{Name: "spare"})[:len(l[i].Needs)]
	}
	return l
}

// overwrite writes over a list of needs, its spare room too.
func overwrite(l []api.Need) {
	l = l[:cap(l)]
	for i := range l {
		l[i] = api.Need{Name: "written over", Span: "!"}
	}
}

// overwriteAll writes over a list of texts, its spare room too.
func overwriteAll(l []string) {
	l = l[:cap(l)]
	for i := range l {
		l[i] = "written over"
	}
}

// What is handed in stays as it was, its spare room too.
func TestP01HandedIn(t *testing.T) {
	whole := func(l []api.Event) string {
		text := fmt.Sprint(l)
		for _, e := range l {
			text += fmt.Sprint(e.Needs[:cap(e.Needs)])
		}
		return text
	}
	l := append(needy(), needy()[1], api.Event{Kind: 77})
	room := slices.Clone(l)
	want := whole(l)
	s := fold.New()
	for _, e := range l {
		s.Fits(e)
		s.Apply(e)
	}
	for n := range len(l) + 1 {
		fold.Of(l[:n]...)
	}
	if whole(l) != want || whole(room) != want {
		t.Errorf("what was handed in is changed: %s", whole(l))
	}
}

// What was handed in is not kept: it may be written over.
func TestP01NotKept(t *testing.T) {
	l := needy()
	a, _, err := fold.Of(l...)
	if err != nil {
		t.Fatalf("Of: %v", err)
	}
	b := fold.New()
	for _, e := range l {
		b.Apply(e)
	}
	for i := range l {
		overwrite(l[i].Needs)
		l[i] = api.Event{Kind: api.Team, Who: "written", Holder: "over"}
	}
	same(t, "Of", a, needy())
	same(t, "Apply", b, needy())
}

// An answer may be written over, its spare room too: the state, its copies and other answers stay.
func TestP01NewMemory(t *testing.T) {
	m := model(append(needy(), events("account bob 0000000000000002", "team bob dev", "join bob dev alice", "own bob foo bob", "own bob foo dev", "publish bob zoo 1.0.0 0 0000000000000001 1 1")...))
	s, _, err := fold.Of(m...)
	if err != nil {
		t.Fatalf("Of: %v", err)
	}
	c := s.Copy()
	for _, x := range []*fold.State{s, c, c.Copy()} {
		members, _ := x.Members("dev")
		again, _ := x.Members("dev")
		holders, _ := x.Holders("foo")
		anew, _ := x.Holders("foo")
		first, _ := x.Release("foo", "1.0.0")
		second, _ := x.Release("foo", "1.0.0")
		releases, others := x.Releases("foo"), x.Releases("foo")
		want := fmt.Sprint(again, anew, second, others)
		overwriteAll(members)
		overwriteAll(holders)
		overwriteAll(x.Accounts())
		overwriteAll(x.Teams())
		overwrite(first.Needs)
		for i := range releases {
			overwrite(releases[i].Needs)
		}
		releases = releases[:cap(releases)]
		for i := range releases {
			releases[i] = api.Release{Version: "written over"}
		}
		if got := fmt.Sprint(again, anew, second, others); got != want {
			t.Errorf("answers share memory: %s, want %s", got, want)
		}
		same(t, "a state whose answers were written over", x, m)
	}
	same(t, "a state", s, m)
	same(t, "its copy", c, m)
}

// Faults are new ones, too.
func TestP01NewFaults(t *testing.T) {
	s := of(t, base()...)
	for _, e := range []api.Event{{}, read("yank alice new 1.0.0")} {
		want := s.Fits(e).Error()
		*s.Fits(e).(*api.Fault) = api.Fault{Code: api.ErrNil}
		*s.Apply(e).(*api.Fault) = api.Fault{Code: api.ErrNil}
		if got := s.Fits(e).Error(); got != want {
			t.Errorf("Fits(%v): %s, want %s", e, got, want)
		}
	}
}
