package rule_test

import (
	"errors"
	"fmt"
	"slices"
	"strconv"
	"testing"

	"yankline/api"
	"yankline/fold"
	"yankline/rule"
)

// nothing holds that err is the fault that there is no state.
func nothing(t *testing.T, what string, err error) {
	t.Helper()
	var f *api.Fault
	if !errors.As(err, &f) || *f != (api.Fault{Code: api.ErrNil, At: -1}) {
		t.Errorf("%s: %v, want %v", what, err, api.ErrNil)
	}
}

// No state, and one that no call made, is ErrNil, ahead of all else.
func TestP01Nil(t *testing.T) {
	for _, s := range []*fold.State{nil, {}, new(fold.State)} {
		for _, e := range append(events(base()...), api.Event{}, api.Event{Kind: 77}, api.Event{Kind: api.Team, Who: "A"}) {
			nothing(t, "Check", rule.Check(s, e))
			nothing(t, "Do", rule.Do(s, e))
		}
		if s.Head() != 0 || s.Fits(read("account a 0000000000000001")) == nil {
			t.Error("a state that no call made is one")
		}
	}
}

// needy are events whose needs stand in lists with room behind them.
func needy() model {
	l := events("account alice 0000000000000001", "publish alice foo 1.0.0 2 aa * foo =1.0.0 0000000000000001 1 1", "publish alice foo 1.1.0 0 0000000000000001 1 1", "publish alice foo 0.9.0 1 zoo ! 0000000000000001 1 1")
	for i := range l {
		l[i].Needs = append(slices.Clip(slices.Clone(l[i].Needs)), api.Need{Name: "spare"}, api.Need{Name: "spare"})[:len(l[i].Needs)]
	}
	return l
}

// What is handed in stays as it was, its spare room too.
func TestP01HandedIn(t *testing.T) {
	room := func(l model) string {
		text := fmt.Sprint(l)
		for _, e := range l {
			text += fmt.Sprint(e.Needs[:cap(e.Needs)])
		}
		return text
	}
	l := append(needy(), needy()[1], api.Event{Kind: 77})
	want := room(l)
	s := fold.New()
	for _, e := range l {
		rule.Check(s, e)
		rule.Do(s, e)
	}
	for n := range len(l) + 1 {
		rule.All(l[:n]...)
	}
	if room(l) != want {
		t.Errorf("what was handed in is changed: %s", room(l))
	}
	f, under := api.Fault{Code: api.ErrRefused, What: "yank", At: 3}, api.Fault{Code: api.ErrThere, At: -1}
	f.Under = &under
	was, beneath := f, under
	rule.Codes(&f)
	if f != was || under != beneath {
		t.Errorf("a fault that was handed in is changed: %v", &f)
	}
}

// What was handed in is not kept: it may be written over.
func TestP01NotKept(t *testing.T) {
	l := needy()
	all, _, err := rule.All(l...)
	if err != nil {
		t.Fatalf("All: %v", err)
	}
	done := fold.New()
	for _, e := range l {
		if err := rule.Do(done, e); err != nil {
			t.Fatalf("Do: %v", err)
		}
	}
	for i := range l {
		needs := l[i].Needs[:cap(l[i].Needs)]
		for j := range needs {
			needs[j] = api.Need{Name: "written over", Span: "!"}
		}
		l[i] = api.Event{Kind: api.Team, Who: "written", Holder: "over"}
	}
	if want := of(t, needy()); !fold.Same(all, want) || !fold.Same(done, want) {
		t.Error("a state is changed by what is written over the events")
	}
}

// Nothing is kept from call to call: each state is looked at as it is by then.
func TestP01States(t *testing.T) {
	m := events(base()...)
	one := of(t, m)
	other := one.Copy()
	e := read("yank alice foo 1.0.0")
	for range 3 {
		taken(t, one.Copy(), e)
		asked(t, one, m, e)
	}
	taken(t, one, e)
	refused(t, "yanked", one, e, "yank", api.ErrThere, "")
	taken(t, other.Copy(), e)
	taken(t, other, read("disown bob foo alice"))
	taken(t, other, read("leave alice dev alice"))
	refused(t, "no owner", other, e, "yank", api.ErrOwner, "")
	refused(t, "yanked", one, e, "yank", api.ErrThere, "")
}

// Answers may be written over, spare room too: later ones, and the state, stay.
func TestP01NewMemory(t *testing.T) {
	s := of(t, events(base()...))
	e := read("leave bob ops bob")
	was := s.Copy()
	for range 2 {
		for _, err := range []error{rule.Check(s, e), rule.Do(s, e)} {
			faulty(t, "again", err, "leave", -1, api.ErrLast, "an-idle")
			first, second := rule.Codes(err), rule.Codes(err)
			first = first[:cap(first)]
			for i := range first {
				first[i] = api.ErrDead
			}
			if !slices.Equal(second, []api.Errno{150, 156}) || !slices.Equal(rule.Codes(err), second) {
				t.Errorf("Codes beside what is written over = %v", second)
			}
			f := err.(*api.Fault)
			*f.Under.(*api.Fault) = api.Fault{Code: api.ErrDead}
			*f = api.Fault{Code: api.ErrDead, What: "written over"}
		}
		for range 2 {
			err := rule.Check(nil, e)
			nothing(t, "again", err)
			*err.(*api.Fault) = api.Fault{Code: api.ErrDead}
		}
	}
	if !fold.Same(s, was) {
		t.Error("the state is changed by what is written over the faults")
	}
}

// A log full of events: a package of many holders and versions, a team of many members, and one that alone holds many packages.
func TestP01Ends(t *testing.T) {
	const n = 512
	l := events("account me 0000000000000001", "team me all", "team me sole", publish("me", "one", "1.0.0"))
	for i := range n {
		at := strconv.Itoa(i)
		l = append(l, api.Event{Kind: api.Account, Who: "a" + at, Sum: uint64(i + 2)})
		l = append(l, events("join me all a"+at, "own me one a"+at, publish("a"+at, "one", "1."+at+".1"), publish("me", "p-"+at, "1.0.0"), "own me p-"+at+" sole", "disown me p-"+at+" me")...)
	}
	l = append(l, read("own me one all"))
	for i := 0; len(l) < api.MaxEvents; i++ {
		l = append(l, read([]string{"yank", "unyank"}[i%2]+" me p-7 1.0.0"))
	}
	s, at, err := rule.All(l...)
	if err != nil || at != api.MaxEvents || s.Head() != api.MaxEvents {
		t.Fatalf("All of a full log = %d, %v", at, err)
	}
	refused(t, "a full log", s, read("leave me sole me"), "leave", api.ErrLast, "p-0")
	refused(t, "a full log", s, read("account b 0000000000000100"), "account", api.ErrThere, "")
	refused(t, "a full log", s, read(publish("a9", "o-ne", "1.0.0")), "publish", api.ErrLike, "one")
	refused(t, "a full log", s, read("yank a9 p-1 1.0.0"), "yank", api.ErrOwner, "")
	taken(t, s, read("leave a7 all me")) // how many events a log has is not asked for
}
