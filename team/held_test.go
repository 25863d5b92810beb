package team_test

import (
	"slices"
	"strconv"
	"testing"

	"yankline/api"
	"yankline/fold"
	"yankline/team"
)

// Of no state, and of one that no call made, nothing is told.
func TestP01Nil(t *testing.T) {
	for _, s := range []*fold.State{nil, {}, new(fold.State)} {
		told(t, "no state", s, nil)
		follows(t, s)
	}
}

// What is asked changes nothing of the state, and answers the same again.
func TestP01HandedIn(t *testing.T) {
	m := events(base()...)
	s := of(t, m)
	was := s.Copy()
	for range 3 {
		told(t, "again", s, m)
		if !fold.Same(s, was) {
			t.Fatal("what is asked changes the state")
		}
	}
	told(t, "a copy", was, m)
}

// Nothing is kept from call to call: the state that is handed in is looked at, as it is by then.
func TestP01NotKept(t *testing.T) {
	m := events(base()...)
	one, other := of(t, m), of(t, m[:12])
	told(t, "one", one, m)
	told(t, "the other", other, m[:12])
	copied := one.Copy()
	for _, line := range []string{"leave alice dev alice", "disown zed zoo alice", "own zed bar-baz bob", "join bob ops carol"} {
		if err := one.Apply(read(line)); err != nil {
			t.Fatalf("Apply(%s): %v", line, err)
		}
		m = append(m, read(line))
		told(t, "one, further", one, m)
	}
	told(t, "its copy", copied, events(base()...))
	told(t, "the other", other, m[:12])
}

// overwrite writes over a list, its spare room too.
func overwrite(l []string) {
	l = l[:cap(l)]
	for i := range l {
		l[i] = "written over"
	}
}

// An answer may be written over, its spare room too: the state and other answers stay.
func TestP01NewMemory(t *testing.T) {
	m := events(base()...)
	s := of(t, m)
	for _, answer := range []func() []string{
		func() []string { return team.Owners(s, "zoo") },
		func() []string { return team.Owners(s, "b") },
		func() []string { return team.Why(s, "alice", "zoo") },
		func() []string { return team.Names(s, "bob") },
		func() []string { return team.Without(s, "zoo", "carol") },
		func() []string { return team.Without(s, "zoo", "nobody") },
		func() []string { return team.Teams(s, "bob") },
	} {
		first, second := answer(), answer()
		want := slices.Clone(second)
		if len(want) == 0 {
			t.Fatal("there is nothing to be written over")
		}
		overwrite(first)
		equal(t, "an answer beside one that is written over", second, want)
		equal(t, "an answer behind one that is written over", answer(), want)
	}
	told(t, "a state whose answers were written over", s, m)
}

// A log full of events: a team of many accounts that holds many packages, and many teams of one account.
func TestP01Ends(t *testing.T) {
	const n = api.MaxEvents / 8
	lines := []string{account("me"), "team me all"}
	for i := range n {
		a, p, d := "a"+strconv.Itoa(i), "p-"+strconv.Itoa(i), "t"+strconv.Itoa(i)
		lines = append(lines, account(a), "join me all "+a, publish("me", p, "1.0.0"), "own me "+p+" all", "team me "+d)
		if i > 0 {
			lines = append(lines, "own me p-0 "+a, "own me p-0 "+d)
		}
	}
	s := of(t, events(lines...))
	if got := s.Head(); got > api.MaxEvents {
		t.Fatalf("there are %d events", got)
	}
	counts := []int{len(team.Owners(s, "p-0")), len(team.Owners(s, "p-1")), len(team.Why(s, "me", "p-0")), len(team.Why(s, "a7", "p-0")), len(team.Names(s, "me")), len(team.Names(s, "a7")), len(team.Without(s, "p-1", "all")), len(team.Teams(s, "me")), len(team.Teams(s, "a7"))}
	if want := []int{n + 1, n + 1, n + 1, 2, n, n, 1, n + 1, 1}; !slices.Equal(counts, want) {
		t.Errorf("of a full log there are %d, want %d", counts, want)
	}
	if !team.Owns(s, "a7", "p-9") || team.Owns(s, "all", "p-9") {
		t.Error("of a full log a7 does not own p-9, or the team all does")
	}
}
