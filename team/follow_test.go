package team_test

import (
	"math/rand/v2"
	"slices"
	"testing"

	"yankline/api"
	"yankline/fold"
	"yankline/team"
)

// pool are events about teams and holders, of few names.
func pool() model {
	var lines []string
	for _, who := range []string{"alice", "bob", "carol"} {
		for _, name := range []string{"foo", "bar-baz", "b"} {
			lines = append(lines, publish(who, name, "1.0.0"), publish(who, name, "1.1.0"))
			for _, holder := range []string{"alice", "bob", "carol", "dev", "ops"} {
				lines = append(lines, "own "+who+" "+name+" "+holder, "disown "+who+" "+name+" "+holder)
			}
		}
		for _, holder := range []string{"dev", "ops"} {
			lines = append(lines, account(who), "team "+who+" "+holder)
			for _, note := range []string{"alice", "bob", "carol"} {
				lines = append(lines, "join "+who+" "+holder+" "+note, "leave "+who+" "+holder+" "+note)
			}
		}
	}
	return events(lines...)
}

// ahead are the accounts, so that most of a script fits.
func ahead() model { return events(account("alice"), account("bob"), account("carol")) }

// Scripts of teams and holders: what is told behind each event, by the events alone, and that it hangs together.
func TestP141P142P143Scripts(t *testing.T) {
	r := rand.New(rand.NewPCG(14, 1))
	l := pool()
	taken := 0
	for range 10 {
		m := ahead()
		s := of(t, m)
		for range 120 {
			e := l[r.IntN(len(l))]
			if s.Apply(e) != nil {
				continue
			}
			m = append(m, e)
			taken++
			told(t, "in a script", s, m)
			follows(t, s)
		}
	}
	if taken < 250 {
		t.Errorf("of the scripts but %d events were taken", taken)
	}
}

// Behind one further event, what is told of the others stays: owners come and go by what the event says alone.
func TestP143OneMore(t *testing.T) {
	m := events(base()...)
	s := of(t, m)
	for _, e := range pool() {
		one := s.Copy()
		if one.Apply(e) != nil {
			continue
		}
		told(t, "one more", one, append(m[:len(m):len(m)], e))
		follows(t, one)
		if e.Kind == api.Disown {
			equal(t, "Owners behind a Disown", team.Owners(one, e.Name), team.Without(s, e.Name, e.Holder))
		}
	}
	told(t, "what was copied", s, m)
}

// follows holds what follows of whatever a state tells.
func follows(t *testing.T, s *fold.State) {
	t.Helper()
	for _, name := range asked() {
		owners := team.Owners(s, name)
		for _, who := range asked() {
			why, names := team.Why(s, who, name), team.Names(s, who)
			owns := team.Owns(s, who, name)
			if owns != (len(why) > 0) || owns != slices.Contains(names, name) || owns != slices.Contains(owners, who) {
				t.Errorf("Owns(%q, %q) = %t, Why = %q, Names = %q, Owners = %q", who, name, owns, why, names, owners)
			}
			left := team.Without(s, name, who)
			for _, one := range left {
				if !slices.Contains(owners, one) {
					t.Errorf("Without(%q, %q) = %q, Owners = %q", name, who, left, owners)
				}
			}
			for _, one := range owners {
				if stays := !slices.Equal(team.Why(s, one, name), []string{who}); stays != slices.Contains(left, one) {
					t.Errorf("Without(%q, %q) = %q, Why(%q) = %q", name, who, left, one, team.Why(s, one, name))
				}
			}
		}
	}
}
