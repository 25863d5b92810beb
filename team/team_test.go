package team_test

import (
	"slices"
	"strings"
	"testing"

	"yankline/fold"
	"yankline/team"
)

// example are the lines of the chapter's: foo is held by alice and by the team dev, in which bob is. carol is there, too, and owns nothing.
func example() []string {
	return []string{account("alice"), account("bob"), account("carol"), publish("alice", "foo", "1.0.0"), "team bob dev", "own alice foo dev"}
}

func TestP141Examples(t *testing.T) {
	s := of(t, events(example()...))
	equal(t, "Owners(foo)", team.Owners(s, "foo"), []string{"alice", "bob"})
	equal(t, "Why(bob, foo)", team.Why(s, "bob", "foo"), []string{"dev"})
	equal(t, "Names(bob)", team.Names(s, "bob"), []string{"foo"})
	if team.Owns(s, "carol", "foo") || !team.Owns(s, "bob", "foo") || !team.Owns(s, "alice", "foo") {
		t.Error("carol owns foo, or bob or alice does not")
	}
	equal(t, "Owners(bar)", team.Owners(s, "bar"), nil)
	told(t, "the example", s, events(example()...))
}

func TestP142Examples(t *testing.T) {
	s := of(t, events(example()...))
	equal(t, "Without(foo, dev)", team.Without(s, "foo", "dev"), []string{"alice"})
	equal(t, "Without(foo, alice)", team.Without(s, "foo", "alice"), []string{"bob"})
	equal(t, "Without(foo, carol)", team.Without(s, "foo", "carol"), []string{"alice", "bob"})
}

// base are lines of events, of which each fits behind those ahead, that make owners in all ways.
func base() []string {
	return []string{
		account("zed"), account("alice"), account("carol"), account("bob"), account("a"), // not by names
		publish("zed", "zoo", "1.0.0"), publish("zed", "foo", "1.0.0"), publish("alice", "bar-baz", "1.0.0"),
		"team alice web", "team alice dev", "team bob ops",
		"own zed zoo web", "own zed zoo dev", "own zed zoo alice", "own zed zoo carol", // alice by herself and by two teams
		"join alice web zed", "join alice web bob", "join alice dev a", "join alice dev bob",
		"own zed foo ops", "own zed foo dev",
		"leave bob ops bob", // a team of nobody
		"disown zed foo zed",
		publish("bob", "foo", "1.1.0"), // who publishes another version is not by that a holder
		"own alice bar-baz ops",
		"disown alice bar-baz alice", // a package of nobody
		publish("carol", "b", "1.0.0"),
	}
}

// What is told behind each event.
func TestP141P142Base(t *testing.T) {
	m := events(base()...)
	for n := range len(m) + 1 {
		told(t, base()[max(n-1, 0)], of(t, m[:n]), m[:n])
	}
	s := of(t, m)
	equal(t, "Owners(zoo)", team.Owners(s, "zoo"), []string{"a", "alice", "bob", "carol", "zed"})
	equal(t, "Why(alice, zoo)", team.Why(s, "alice", "zoo"), []string{"alice", "dev", "web"})
	equal(t, "Why(zed, zoo)", team.Why(s, "zed", "zoo"), []string{"web", "zed"})
	equal(t, "Why(bob, zoo)", team.Why(s, "bob", "zoo"), []string{"dev", "web"})
	equal(t, "Names(bob)", team.Names(s, "bob"), []string{"foo", "zoo"})
	equal(t, "Teams(bob)", team.Teams(s, "bob"), []string{"dev", "web"})
	equal(t, "Owners(foo)", team.Owners(s, "foo"), []string{"a", "alice", "bob"})
	equal(t, "Owners(bar-baz)", team.Owners(s, "bar-baz"), nil)
	equal(t, "Without(zoo, alice)", team.Without(s, "zoo", "alice"), []string{"a", "alice", "bob", "carol", "zed"})
	equal(t, "Without(zoo, carol)", team.Without(s, "zoo", "carol"), []string{"a", "alice", "bob", "zed"})
	equal(t, "Without(zoo, dev)", team.Without(s, "zoo", "dev"), []string{"alice", "bob", "carol", "zed"})
	equal(t, "Without(foo, dev)", team.Without(s, "foo", "dev"), nil)
	equal(t, "Without(foo, ops)", team.Without(s, "foo", "ops"), []string{"a", "alice", "bob"})
}

// A team is no account: it owns nothing, and is in no team, whatever it holds and whoever is in it.
func TestP141Team(t *testing.T) {
	s := of(t, events(base()...))
	for _, a := range []string{"web", "dev", "ops"} {
		equal(t, "Names("+a+")", team.Names(s, a), nil)
		equal(t, "Teams("+a+")", team.Teams(s, a), nil)
		for name := range s.Packages() {
			equal(t, "Why("+a+", "+name+")", team.Why(s, a, name), nil)
			if team.Owns(s, a, name) || slices.Contains(team.Owners(s, name), a) {
				t.Errorf("the team %s owns %s", a, name)
			}
		}
	}
}

// A package, an account and a team may have one name: each is asked for where it is meant.
func TestP141OneName(t *testing.T) {
	m := events(account("foo"), account("zoo"), publish("zoo", "foo", "1.0.0"), publish("foo", "zoo", "1.0.0"), "team foo b", publish("zoo", "b", "1.0.0"), "own zoo b b")
	told(t, "one name", of(t, m), m)
	s := of(t, m)
	equal(t, "Owners(foo)", team.Owners(s, "foo"), []string{"zoo"})
	equal(t, "Names(foo)", team.Names(s, "foo"), []string{"b", "zoo"})
	equal(t, "Why(foo, b)", team.Why(s, "foo", "b"), []string{"b"})
	equal(t, "Without(b, b)", team.Without(s, "b", "b"), []string{"zoo"})
}

// Names stand in order byte by byte, each once, in whatever order they came.
func TestP141Rising(t *testing.T) {
	names := []string{"a", "a0", "a1", "a10", "a2", "a9", "aa", "ab", "az", "b", "z"}
	packages := []string{"a", "a-b", "a0", "a10", "a2", "aa", "az", "b", "b-0", "z"}
	for turn := range len(names) {
		turned := slices.Concat(names[turn:], names[:turn])
		lines := []string{account("me")}
		for _, name := range packages {
			lines = append(lines, publish("me", name, "1.0.0"))
		}
		for _, who := range turned {
			lines = append(lines, account(who), "team "+who+" t"+who, "join me t"+who+" me")
			for _, name := range packages {
				lines = append(lines, "own me "+name+" "+who, "own me "+name+" t"+who)
			}
		}
		slices.Reverse(turned)
		s := of(t, events(lines...))
		owners := slices.Sorted(slices.Values(append(slices.Clone(names), "me")))
		teams := strings.Split("t"+strings.Join(names, " t"), " ")
		for _, name := range packages {
			equal(t, "Owners", team.Owners(s, name), owners)
			equal(t, "Without", team.Without(s, name, "me"), owners) // by the teams
			equal(t, "Why", team.Why(s, "me", name), append([]string{"me"}, teams...))
			equal(t, "Why", team.Why(s, "z", name), []string{"tz", "z"})
		}
		equal(t, "Teams", team.Teams(s, "me"), teams)
		for _, who := range owners {
			equal(t, "Names", team.Names(s, who), packages)
		}
	}
}

// Of what is not there, or is no name, nothing is told; without it all owners are left.
func TestP141P142None(t *testing.T) {
	long := strings.Repeat("x", 1<<17)
	for _, s := range []*fold.State{fold.New(), of(t, events(base()...))} {
		all := team.Owners(s, "zoo")
		for _, no := range []string{"", "nobody", "Zoo", "ZOO", "z-oo", "zoo ", " zoo", "zo", "zooo", "zoo\x00", "Alice", "alice\n", "\xff", "é", long} {
			equal(t, "Owners", team.Owners(s, no), nil)
			equal(t, "Names", team.Names(s, no), nil)
			equal(t, "Teams", team.Teams(s, no), nil)
			equal(t, "Why of no account", team.Why(s, no, "zoo"), nil)
			equal(t, "Why of no package", team.Why(s, "alice", no), nil)
			equal(t, "Without of no package", team.Without(s, no, "alice"), nil)
			equal(t, "Without of no package and holder", team.Without(s, no, no), nil)
			equal(t, "Without of no holder", team.Without(s, "zoo", no), all)
			if team.Owns(s, no, "zoo") || team.Owns(s, "alice", no) || team.Owns(s, no, no) {
				t.Errorf("Owns holds of %.80q", no)
			}
		}
	}
}

// Who is in a team that holds a package is no holder: without it there are all owners still.
func TestP142Member(t *testing.T) {
	s := of(t, events(base()...))
	for _, who := range []string{"a", "bob"} {
		equal(t, "Without", team.Without(s, "zoo", who), team.Owners(s, "zoo"))
		equal(t, "Without", team.Without(s, "foo", who), team.Owners(s, "foo"))
	}
}
