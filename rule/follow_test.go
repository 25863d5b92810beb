package rule_test

import (
	"fmt"
	"math/rand/v2"
	"slices"
	"testing"

	"yankline/api"
	"yankline/fold"
	"yankline/rule"
	"yankline/team"
)

// pool are events of all kinds that have to do with one another, of few names.
func pool() model {
	var lines []string
	add := func(l ...string) { lines = append(lines, l...) }
	for _, who := range []string{"alice", "bob", "carol"} {
		add("account "+who+" 0000000000000001", "account "+who+" 00000000000000"+fmt.Sprintf("%02x", who[0]))
		for _, holder := range []string{"dev", "ops", "bob"} {
			add("team " + who + " " + holder)
			for _, note := range []string{"alice", "bob", "carol", "ops"} {
				add("join "+who+" "+holder+" "+note, "leave "+who+" "+holder+" "+note)
			}
		}
		for _, name := range []string{"foo", "f-oo", "a-b", "log"} {
			for _, version := range []string{"1.9.0", "1.10.0"} {
				add(publish(who, name, version))
				for _, of := range []string{"yank", "unyank"} {
					add(of + " " + who + " " + name + " " + version)
				}
				add("deprecate "+who+" "+name+" "+version+" -", "deprecate "+who+" "+name+" "+version+" 20")
			}
			for _, holder := range []string{"alice", "bob", "dev", "ops"} {
				add("own "+who+" "+name+" "+holder, "disown "+who+" "+name+" "+holder)
			}
		}
	}
	return events(lines...)
}

// reasons are the numbers of why an event of pool may be refused.
func reasons() []api.Errno {
	return []api.Errno{api.ErrWho, api.ErrThere, api.ErrReserved, api.ErrLike, api.ErrOwner, api.ErrNone, api.ErrLast, api.ErrMember}
}

// next is an event of l that may be done behind m, two times in three; else one that is refused by a number that is drawn, if there is one.
func next(r *rand.Rand, l, m model) api.Event {
	want := api.OK
	if r.IntN(3) == 0 {
		want = reasons()[r.IntN(len(reasons()))]
	}
	order := r.Perm(len(l))
	at := slices.IndexFunc(order, func(i int) bool { no, _ := m.why(l[i]); return no == want })
	return l[order[max(at, 0)]]
}

// Scripts, event by event: what may be done, that it fits, and what follows of the state behind it.
func TestP153Scripts(t *testing.T) {
	r := rand.New(rand.NewPCG(15, 3))
	l := pool()
	numbers := map[api.Errno]int{}
	for range 60 {
		s, m := fold.New(), model{}
		for range 100 {
			e := next(r, l, m)
			no, of := m.why(e)
			numbers[no]++
			was := s.Copy()
			if no != api.OK {
				refused(t, text(e), s, e, word(e), no, of)
				continue
			}
			taken(t, s, e)
			m = m.behind(e)
			owned(t, s)
			stays(t, was, s, e)
		}
		for _, e := range l {
			asked(t, s, m, e)
		}
		all, at, err := rule.All(m...)
		if err != nil || at != len(m) || !fold.Same(all, s) {
			t.Errorf("All of %v = %d, %v, or not what Do made", m, at, err)
		}
	}
	for _, no := range reasons() {
		if numbers[no] < 20 {
			t.Errorf("in the scripts %v is told but %d times", no, numbers[no])
		}
	}
}

// States that fit, but were not made by the rules: what may be done to them is told likewise, and no package that has an owner loses the last one.
func TestP153Fitting(t *testing.T) {
	r := rand.New(rand.NewPCG(15, 4))
	l := pool()
	numbers, nobodys := map[api.Errno]int{}, 0
	for range 60 {
		m := events("account alice 0000000000000001", "account bob 0000000000000001", "account carol 0000000000000002") // of one sum, too
		s := of(t, m)
		for range 100 + r.IntN(500) {
			if e := l[r.IntN(len(l))]; s.Apply(e) == nil {
				m = append(m, e)
			}
		}
		for _, e := range l {
			no, _ := m.why(e)
			numbers[no]++
			asked(t, s, m, e)
			one := s.Copy()
			if rule.Do(one, e) != nil {
				continue
			}
			stays(t, s, one, e)
			for name := range s.Packages() {
				if !m.owned(name) {
					nobodys++
				} else if len(team.Owners(one, name)) == 0 {
					t.Errorf("behind %v by %s %s has no owner", m, text(e), name)
				}
			}
		}
	}
	for _, no := range []api.Errno{api.OK, api.ErrThere, api.ErrReserved, api.ErrLike, api.ErrOwner, api.ErrNone, api.ErrLast, api.ErrMember} {
		if numbers[no] < 20 {
			t.Errorf("of what fits %v is told but %d times", no, numbers[no])
		}
	}
	if nobodys < 100 {
		t.Errorf("but %d times a package was nobody's", nobodys)
	}
}

// owned holds that each package has an owner.
func owned(t *testing.T, s *fold.State) {
	t.Helper()
	for name := range s.Packages() {
		if len(team.Owners(s, name)) == 0 {
			t.Errorf("%s has no owner", name)
		}
	}
}

// stays holds that e, which made s of what was, changed nothing of the packages that Who did not own.
func stays(t *testing.T, was, s *fold.State, e api.Event) {
	t.Helper()
	for name := range was.Packages() {
		if ahead, behind := whole(was, name), whole(s, name); !team.Owns(was, e.Who, name) && ahead != behind {
			t.Errorf("by %s what was %s is %s", text(e), ahead, behind)
		}
	}
}

// whole is all that is told of a package.
func whole(s *fold.State, name string) string {
	holders, is := s.Holders(name)
	return fmt.Sprint(name, holders, is, s.Touched(name), s.Releases(name), team.Owners(s, name))
}

// Whatever its owners do, in whatever order, a package keeps the last one: of all ways to take three holders away each ends at one.
func TestP153Last(t *testing.T) {
	m := events("account alice 0000000000000001", "account bob 0000000000000002", "account carol 0000000000000003", "team bob dev", "join bob dev alice", "team carol ops",
		publish("alice", "foo", "1.0.0"), "own alice foo dev", "own alice foo ops")
	ways := events("disown alice foo alice", "disown bob foo dev", "disown carol foo ops", "leave alice dev alice", "leave alice dev bob", "leave bob dev bob", "leave bob dev alice", "leave carol ops carol",
		"disown carol foo alice", "disown alice foo dev", "disown bob foo ops")
	ends := map[string]int{}
	var walk func(s *fold.State, m model)
	walk = func(s *fold.State, m model) {
		done := 0
		for _, e := range ways {
			asked(t, s, m, e)
			one := s.Copy()
			if rule.Do(one, e) == nil {
				owned(t, one)
				walk(one, m.behind(e))
				done++
			}
		}
		if done == 0 {
			ends[fmt.Sprint(team.Owners(s, "foo"))]++
		}
	}
	walk(of(t, m), m)
	if len(ends) != 3 || ends["[alice]"] == 0 || ends["[bob]"] == 0 || ends["[carol]"] == 0 {
		t.Errorf("who owned foo at last: %v", ends)
	}
}
