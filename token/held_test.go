package token_test

import (
	"strconv"
	"strings"
	"testing"

	"yankline/api"
	"yankline/fold"
	"yankline/token"
)

// No state, and one that no call made, is ErrNil, ahead of all else.
func TestP01Nil(t *testing.T) {
	for _, s := range []*fold.State{nil, {}, new(fold.State)} {
		for _, tok := range append(toks(), nones()...) {
			refused(t, s, tok, api.ErrNil)
		}
	}
}

// What is asked changes nothing of the state, and answers the same again.
func TestP01HandedIn(t *testing.T) {
	l := []api.Event{account("alice", "tok-a"), account("bob", "tok-b"), {Kind: api.Team, Who: "bob", Holder: "dev"}, {Kind: api.Publish, Who: "alice", Name: "foo", Version: "1.0.0", N: 1}}
	s := of(t, l...)
	was := s.Copy()
	for range 3 {
		told(t, "again", s, l)
		if !fold.Same(s, was) {
			t.Fatal("what is asked changes the state")
		}
	}
	told(t, "a copy", was, l)
}

// Nothing is kept from call to call: the state that is handed in is looked at, as it is by then.
func TestP01NotKept(t *testing.T) {
	one, other := fold.New(), of(t, account("bob", "tok-a"))
	belongs(t, "one", one, "tok-a", "")
	belongs(t, "the other", other, "tok-a", "bob")
	copied := one.Copy()
	if err := one.Apply(account("carol", "tok-a")); err != nil {
		t.Fatal(err)
	}
	belongs(t, "one, further", one, "tok-a", "carol")
	belongs(t, "its copy", copied, "tok-a", "")
	belongs(t, "the other", other, "tok-a", "bob")
	if err := one.Apply(account("alice", "tok-a")); err != nil {
		t.Fatal(err)
	}
	belongs(t, "one, further still", one, "tok-a", "alice")
	belongs(t, "the other", other, "tok-a", "bob")
}

// Faults are new ones each time: they may be written over.
func TestP01NewFaults(t *testing.T) {
	s := of(t, account("alice", "tok-a"))
	for _, c := range []struct {
		s    *fold.State
		tok  string
		want api.Errno
	}{{nil, "tok-a", api.ErrNil}, {s, "a b", api.ErrToken}, {s, "tok-b", api.ErrNone}} {
		for range 2 {
			_, err := token.Who(c.s, c.tok)
			faulty(t, "Who", err, c.want)
			*err.(*api.Fault) = api.Fault{Code: api.ErrDead, What: "written over"}
			if _, err = token.Free(c.s, c.tok); err != nil {
				faulty(t, "Free", err, c.want)
				*err.(*api.Fault) = api.Fault{Code: api.ErrDead, What: "written over"}
			}
		}
	}
	belongs(t, "behind faults", s, "tok-b", "")
}

// A log full of accounts, and a token as long as a text can well be.
func TestP01Ends(t *testing.T) {
	var l []api.Event
	for i := range api.MaxEvents {
		l = append(l, account("a"+strconv.Itoa(i), "tok-"+strconv.Itoa(i)))
	}
	s := of(t, l...)
	for _, i := range []int{0, 1, 9, 10, 4095, api.MaxEvents - 1} {
		belongs(t, "a full log", s, "tok-"+strconv.Itoa(i), "a"+strconv.Itoa(i))
	}
	belongs(t, "a full log", s, "tok-"+strconv.Itoa(api.MaxEvents), "")
	long := strings.Repeat("x", 1<<26)
	if n, e := token.Sum(long); token.May(long) != api.ErrToken || n != 0 || e != api.ErrToken {
		t.Errorf("Sum of 2^26 bytes = %d, %v", n, e)
	}
	refused(t, s, long, api.ErrToken)
}
