package store_test

import (
	"slices"
	"strings"
	"testing"

	"yankline/api"
	"yankline/event"
	"yankline/fold"
	"yankline/store"
)

// Of no store, and of one that no call made, nothing is told, and nothing is done to it.
func TestP01Nil(t *testing.T) {
	for _, s := range []*store.Store{nil, {}, new(store.Store)} {
		for _, e := range append(lines("account alice 0000000000000001", "publish a b 1.0.0 0 0000000000000000 1 0"), api.Event{}, api.Event{Kind: 99}) {
			faulty(t, "Do in no store", s.Do(e), no(api.ErrNil))
		}
		for _, bytes := range []string{"", "abc", strings.Repeat("x", api.MaxBytes+1)} {
			faulty(t, "Publish in no store", s.Publish("alice", "foo", "1.0.0", nil, bytes), no(api.ErrNil))
		}
		for _, name := range []string{"", "foo"} {
			text, err := s.Get(name, "1.0.0")
			faulty(t, "Get of no store", err, no(api.ErrNil))
			page, too := s.Page(name)
			faulty(t, "Page of no store", too, no(api.ErrNil))
			if text != "" || page != "" {
				t.Errorf("no store has %q, %q", text, page)
			}
		}
		if s.Head() != 0 || s.State() != nil || len(s.Events(-1, 9)) != 0 || len(s.Events(0, 1)) != 0 || s.Broken() {
			t.Error("no store tells something")
		}
	}
}

// What is handed in stays as it was, its spare room too, and is not kept.
func TestP01HandedIn(t *testing.T) {
	for _, name := range []string{"foo", "Index"} { // also where it is refused
		r := begun(t, nil)
		r.do(line("account alice 0000000000000001"))
		room := []api.Need{{Name: "a", Span: "*"}, {Name: "b", Span: "!"}, {Name: "spare", Span: "x"}, {}}
		was := slices.Clone(room)
		r.publish("alice", name, "1.0.0", room[:2], "abc")
		if !slices.Equal(room, was) {
			t.Errorf("Publish changed its needs: %v", room)
		}
		r.publish("alice", name, "1.0.0", room[:2], "xyz")
		e := api.Event{Kind: api.Yank, Who: "alice", Name: name, Version: "1.0.0", Needs: room[:0]}
		r.do(e)
		r.do(api.Event{Kind: api.Publish, Needs: room[:2]})
		if !slices.Equal(room, was) {
			t.Errorf("Do changed its needs: %v", room)
		}
		clear(room)
		r.tells("behind needs that are written over")
	}
}

// An answer may be written over, its spare room too: no other one changes, and the store does not.
func TestP01NewMemory(t *testing.T) {
	r := busy(t)
	one, other := r.s.Events(0, 99), r.s.Events(0, 99)
	for i := range one {
		needs := one[i].Needs[:cap(one[i].Needs)]
		for j := range needs {
			needs[j] = api.Need{Name: "written over"}
		}
	}
	one = one[:cap(one)]
	for i := range one {
		one[i] = api.Event{Note: "written over"}
	}
	if !slices.EqualFunc(other, r.m.events, event.Same) {
		t.Error("two answers of Events share memory")
	}
	for i := range other {
		_ = append(other[i].Needs, api.Need{Name: "added"}, api.Need{Name: "added"})
	}
	_ = append(other, api.Event{Note: "added"})
	if !slices.EqualFunc(other, r.m.events, event.Same) {
		t.Error("two lists of one answer share memory")
	}
	r.tells("behind answers that are written over")
	a, b := r.s.State(), r.s.State()
	fine(t, "Apply to a copy", a.Apply(line("yank bob foo 1.9.0")))
	if fold.Same(a, b) || !fold.Same(b, r.s.State()) {
		t.Error("two answers of State share memory")
	}
	r.do(line("yank bob foo 1.9.0"))
	if release, _ := b.Release("foo", "1.9.0"); release.Yanked {
		t.Error("a state goes on with the store")
	}
}

// Faults are new ones each time.
func TestP01NewFaults(t *testing.T) {
	r := busy(t)
	calls := []func() error{
		func() error { _, err := store.Open(nil); return err },
		func() error { _, err := store.Open(laid(t, -1, logged("abc"))); return err },
		func() error { return r.s.Do(api.Event{}) },
		func() error { return r.s.Do(api.Event{Kind: api.Publish}) },
		func() error { return r.s.Publish("bob", "zoo", "2.0.0", nil, "") },
		func() error { return r.s.Publish("bob", "zoo", "2.0.0", nil, strings.Repeat("x", api.MaxBytes+1)) },
		func() error { _, err := r.s.Get("foo", ""); return err },
		func() error { _, err := r.s.Page(""); return err },
		func() error { var none *store.Store; return none.Do(api.Event{}) },
	}
	for i, call := range calls {
		want := call().Error()
		*call().(*api.Fault) = api.Fault{Code: api.ErrDead}
		if got := call().Error(); got != want {
			t.Errorf("call %d: %s, want %s", i, got, want)
		}
	}
	r.tells("behind faults that are written over")
}

// Stores on two disks have nothing in common, and one that is on a copy goes on by itself.
func TestP01Apart(t *testing.T) {
	one := busy(t)
	d := one.d.Copy()
	s, err := store.Open(d)
	fine(t, "Open", err)
	one.do(line("yank alice zoo 1.0.0"))
	fine(t, "Do", s.Do(line("own bob foo alice")))
	fine(t, "Publish", s.Publish("alice", "foo", "3.0.0", nil, "xyz"))
	one.tells("a store beside another one")
	one.publish("bob", "foo", "3.0.0", nil, "abc")
	if text, err := s.Get("foo", "3.0.0"); text != "xyz" || err != nil {
		t.Errorf("Get = %q, %v", text, err)
	}
}

// All that is told is told again, and by no call anything is changed.
func TestP01Again(t *testing.T) {
	r := busy(t)
	was := r.d.Copy()
	r.power(0)
	for range 3 {
		r.tells("asked again")
		r.s.Do(line("yank bob zoo 1.0.0"))
		r.s.Publish("bob", "zoo", "1.0.0", nil, "x")
	}
	r.lies("asked again")
	if r.d.Writes() != 0 || r.d.Dead() || len(was.Names()) != len(r.d.Names()) {
		t.Errorf("what only tells: %d raw writes", r.d.Writes())
	}
}

// Raw arguments of all kinds: each call ends, none panics, and each answers as the model does.
func TestP01Raw(t *testing.T) {
	r := busy(t)
	raw := []string{"", "\x00", "\xff\xfe", "alice", "foo", "Foo", "1.0.0", " ", "a b", "log/00000001", strings.Repeat("x", 1<<20)}
	for _, a := range raw {
		for _, b := range raw {
			r.gets("raw", a, b)
			r.shown("raw", a)
			for kind := range api.Leave + 3 {
				e := api.Event{Kind: kind, Who: "alice", Name: a, Version: b, Holder: a, Note: b}
				answers(t, "Do of raw texts", r.s.Do(e), r.m.do(e))
			}
			for _, needs := range [][]api.Need{nil, {{Name: a, Span: b}}, make([]api.Need, 1000)} {
				answers(t, "Publish of raw texts", r.s.Publish("alice", a, b, needs, b), r.m.publish("alice", a, b, needs, b))
				answers(t, "Publish of raw texts", r.s.Publish(a, b, "1.0.0", needs, a), r.m.publish(a, b, "1.0.0", needs, a))
			}
		}
	}
	r.lies("raw")
	r.tells("raw")
}
