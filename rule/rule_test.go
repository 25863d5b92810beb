package rule_test

import (
	"slices"
	"strings"
	"testing"

	"yankline/api"
	"yankline/event"
	"yankline/fold"
	"yankline/rule"
)

// base are lines of events, of which each fits behind those ahead. All those ahead of the last four may be done, too.
func base() []string {
	return []string{
		"account alice 00000000000000a1", "account bob 0000000000000b0b", "account carol ffffffffffffffff", "account dave 0000000000000000",
		"team alice dev", "join alice dev bob", "team bob ops", "team carol idle", "leave carol idle carol", "team carol web",
		publish("alice", "foo", "1.0.0"), publish("alice", "foo", "1.1.0"), "yank alice foo 1.1.0", "deprecate alice foo 1.0.0 6f6b", "own alice foo dev",
		publish("bob", "bar-baz", "0.9.0"),
		publish("bob", "solo", "1.0.0"), "own bob solo ops", "disown bob solo bob",
		publish("bob", "apt", "1.0.0"), "own bob apt ops", "disown bob apt bob",
		publish("bob", "an-idle", "1.0.0"), "own bob an-idle ops", "own bob an-idle idle", "disown bob an-idle bob", // idle stands for nobody
		publish("bob", "a-both", "1.0.0"), "own bob a-both ops",
		publish("bob", "a-dev", "1.0.0"), "own bob a-dev ops", "own bob a-dev dev", "disown bob a-dev bob",
		publish("carol", "webbed", "1.0.0"), "own carol webbed web",
		publish("dave", "duo", "1.0.0"), "own dave duo alice",
		publish("alice", "index", "1.0.0"),
		publish("carol", "lone", "1.0.0"), "own carol lone idle", "disown carol lone carol",
	}
}

// asking is the line of an event, and what is told of it: OK, or the number and the text of why.
type asking struct {
	line string
	no   api.Errno
	of   string
}

// held holds that behind base each line is told of as is said, and that it is done where it may be.
func held(t *testing.T, l []asking) {
	t.Helper()
	m := events(base()...)
	s := of(t, m)
	for _, c := range l {
		e := read(c.line)
		if no, of := m.why(e); no != c.no || of != c.of {
			t.Fatalf("the model: why(%s) = %v of %q, not %v of %q", c.line, no, of, c.no, c.of)
		}
		if c.no == api.OK {
			taken(t, s.Copy(), e)
			continue
		}
		word, _, _ := strings.Cut(c.line, " ")
		refused(t, c.line, s, e, word, c.no, c.of)
	}
}

func TestP151Examples(t *testing.T) {
	s := of(t, events("account alice 0000000000000001", "account bob 0000000000000002", publish("alice", "foo", "1.0.0")))
	refused(t, "bob, where alice owns", s, read(publish("bob", "foo", "2.0.0")), "publish", api.ErrOwner, "")
	refused(t, "Index", s, api.Event{Kind: api.Publish, Who: "alice", Name: "Index", Version: "1.0.0", N: 1}, "publish", api.ErrEvent, "")
	refused(t, "index", s, read(publish("alice", "index", "1.0.0")), "publish", api.ErrReserved, "")
	refused(t, "f-oo", s, read(publish("alice", "f-oo", "1.0.0")), "publish", api.ErrLike, "foo")
	refused(t, "the one holder", s, read("disown alice foo alice"), "disown", api.ErrLast, "")
	if got := rule.Codes(rule.Check(s, read("disown alice foo alice"))); !slices.Equal(got, []api.Errno{150, 156}) {
		t.Errorf("Codes = %v", got)
	}
	for _, line := range []string{"team bob dev", "own alice foo dev", "disown alice foo alice"} {
		taken(t, s, read(line))
	}
	refused(t, "the one member", s, read("leave bob dev bob"), "leave", api.ErrLast, "foo")
}

// The document's own examples that speak of why.
func TestP151Whole(t *testing.T) {
	s := fold.New()
	taken(t, s, read("account alice 0000000000000001"))
	taken(t, s, read(publish("alice", "foo-bar", "1.0.0")))
	refused(t, "again", s, read(publish("alice", "foo-bar", "1.0.0")), "publish", api.ErrThere, "")
	refused(t, "foobar", s, read(publish("alice", "foobar", "1.0.0")), "publish", api.ErrLike, "foo-bar")
	refused(t, "l-og", s, read(publish("alice", "l-og", "1.0.0")), "publish", api.ErrReserved, "")
	refused(t, "nobody", s, read("yank bob foo-bar 1.0.0"), "yank", api.ErrWho, "")
	taken(t, s, read("account bob 0000000000000002"))
	refused(t, "no owner", s, read("yank bob foo-bar 1.0.0"), "yank", api.ErrOwner, "")
	taken(t, s, read("yank alice foo-bar 1.0.0"))
	refused(t, "yanked", s, read("yank alice foo-bar 1.0.0"), "yank", api.ErrThere, "")
	refused(t, "alone", s, read("disown alice foo-bar alice"), "disown", api.ErrLast, "")
	if s.Head() != 4 {
		t.Errorf("Head = %d", s.Head())
	}
}

func TestP151Account(t *testing.T) {
	held(t, []asking{
		{"account erin 0000000000000001", api.OK, ""},
		{"account foo 0000000000000001", api.OK, ""}, // as a package
		{"account index 0000000000000001", api.OK, ""},
		{"account alice 0000000000000001", api.ErrThere, ""},
		{"account alice 00000000000000a1", api.ErrThere, ""},
		{"account dev 0000000000000001", api.ErrThere, ""},
		{"account idle 0000000000000001", api.ErrThere, ""},
		{"account erin 00000000000000a1", api.ErrThere, ""},
		{"account erin 0000000000000b0b", api.ErrThere, ""},
		{"account erin ffffffffffffffff", api.ErrThere, ""},
		{"account erin 0000000000000000", api.ErrThere, ""}, // a sum as any other
		{"account erin fffffffffffffffe", api.OK, ""},
	})
}

func TestP151Publish(t *testing.T) {
	held(t, []asking{
		{publish("alice", "foo", "1.0.1"), api.OK, ""},
		{publish("bob", "foo", "1.0.1"), api.OK, ""}, // by dev
		{publish("carol", "new", "1.0.1"), api.OK, ""},
		{publish("carol", "indexes", "1.0.1"), api.OK, ""},
		{"publish carol new 1.0.0 2 new =9.0.0 nobody * 0000000000000000 4294967295 65536", api.OK, ""}, // what is needed is not asked for
		{publish("erin", "new", "1.0.1"), api.ErrWho, ""},
		{publish("dev", "foo", "1.0.1"), api.ErrWho, ""},
		{publish("erin", "index", "1.0.0"), api.ErrWho, ""},
		{publish("erin", "f-oo", "1.0.0"), api.ErrWho, ""},
		{publish("alice", "index", "1.0.1"), api.ErrReserved, ""}, // though she has it
		{publish("carol", "index", "1.0.0"), api.ErrReserved, ""},
		{publish("carol", "in-dex", "1.0.0"), api.ErrReserved, ""}, // and like index
		{publish("carol", "yankline", "1.0.0"), api.ErrReserved, ""},
		{publish("carol", "yank-line", "1.0.0"), api.ErrReserved, ""},
		{publish("carol", "registry", "1.0.0"), api.ErrReserved, ""},
		{publish("carol", "log", "1.0.0"), api.ErrReserved, ""},
		{publish("carol", "p-a-g-e", "1.0.0"), api.ErrReserved, ""},
		{publish("carol", "blob", "1.0.0"), api.ErrReserved, ""},
		{publish("alice", "f-oo", "1.0.0"), api.ErrLike, "foo"},
		{publish("carol", "f-o-o", "1.0.0"), api.ErrLike, "foo"},
		{publish("carol", "barbaz", "0.9.0"), api.ErrLike, "bar-baz"},
		{publish("bob", "b-arbaz", "0.9.0"), api.ErrLike, "bar-baz"},
		{publish("carol", "foo", "1.0.1"), api.ErrOwner, ""},
		{publish("carol", "foo", "1.0.0"), api.ErrOwner, ""},
		{publish("bob", "solo", "1.0.1"), api.OK, ""}, // by ops
		{publish("alice", "solo", "1.0.1"), api.ErrOwner, ""},
		{publish("carol", "lone", "1.0.1"), api.ErrOwner, ""}, // who published it
		{publish("alice", "foo", "1.0.0"), api.ErrThere, ""},
		{publish("bob", "foo", "1.1.0"), api.ErrThere, ""}, // yanked is there
		{publish("alice", "foo", "1.0.0-rc"), api.OK, ""},
		{publish("alice", "foo", "0.9.0"), api.OK, ""}, // of bar-baz there is one
	})
}

func TestP151Releases(t *testing.T) {
	held(t, []asking{
		{"yank alice foo 1.0.0", api.OK, ""},
		{"yank bob foo 1.0.0", api.OK, ""},
		{"yank alice index 1.0.0", api.OK, ""}, // reserved names are asked for of Publish alone
		{"yank erin foo 1.0.0", api.ErrWho, ""},
		{"yank dev foo 1.0.0", api.ErrWho, ""},
		{"yank erin new 1.0.0", api.ErrWho, ""},
		{"yank carol new 1.0.0", api.ErrNone, ""},
		{"yank alice f-oo 1.0.0", api.ErrNone, ""},
		{"yank carol foo 1.0.0", api.ErrOwner, ""},
		{"yank carol foo 9.0.0", api.ErrOwner, ""},
		{"yank carol foo 1.1.0", api.ErrOwner, ""},
		{"yank carol lone 1.0.0", api.ErrOwner, ""},
		{"yank alice foo 9.0.0", api.ErrNone, ""},
		{"yank alice foo 0.9.0", api.ErrNone, ""},
		{"yank alice foo 1.1.0", api.ErrThere, ""},
		{"unyank alice foo 1.1.0", api.OK, ""},
		{"unyank bob foo 1.1.0", api.OK, ""},
		{"unyank erin foo 1.1.0", api.ErrWho, ""},
		{"unyank alice new 1.1.0", api.ErrNone, ""},
		{"unyank carol foo 1.1.0", api.ErrOwner, ""},
		{"unyank carol foo 1.0.0", api.ErrOwner, ""},
		{"unyank carol foo 9.0.0", api.ErrOwner, ""},
		{"unyank alice foo 9.0.0", api.ErrNone, ""},
		{"unyank alice foo 1.0.0", api.ErrThere, ""},
		{"deprecate alice foo 1.0.0 6f", api.OK, ""},
		{"deprecate bob foo 1.0.0 -", api.OK, ""},
		{"deprecate alice foo 1.1.0 6f6b", api.OK, ""}, // also of one that is yanked
		{"deprecate erin foo 1.0.0 -", api.ErrWho, ""},
		{"deprecate alice new 1.0.0 -", api.ErrNone, ""},
		{"deprecate carol foo 1.0.0 -", api.ErrOwner, ""},
		{"deprecate carol foo 1.0.0 6f6b", api.ErrOwner, ""},
		{"deprecate carol foo 9.0.0 6f6b", api.ErrOwner, ""},
		{"deprecate alice foo 9.0.0 6f6b", api.ErrNone, ""},
		{"deprecate alice foo 9.0.0 -", api.ErrNone, ""},
		{"deprecate alice foo 1.0.0 6f6b", api.ErrThere, ""},
		{"deprecate alice foo 1.1.0 -", api.ErrThere, ""},
	})
}

func TestP151Holders(t *testing.T) {
	held(t, []asking{
		{"own alice foo carol", api.OK, ""},
		{"own bob foo bob", api.OK, ""}, // who is in dev is no holder
		{"own alice foo ops", api.OK, ""},
		{"own alice foo idle", api.OK, ""},
		{"own erin foo carol", api.ErrWho, ""},
		{"own dev foo carol", api.ErrWho, ""},
		{"own alice new carol", api.ErrNone, ""},
		{"own alice new erin", api.ErrNone, ""},
		{"own alice f-oo carol", api.ErrNone, ""},
		{"own carol foo carol", api.ErrOwner, ""},
		{"own carol foo erin", api.ErrOwner, ""},
		{"own carol foo alice", api.ErrOwner, ""},
		{"own carol lone carol", api.ErrOwner, ""},
		{"own alice foo erin", api.ErrNone, ""},
		{"own alice foo foo", api.ErrNone, ""},
		{"own alice foo alice", api.ErrThere, ""},
		{"own bob foo dev", api.ErrThere, ""},
		{"disown alice foo alice", api.OK, ""},
		{"disown bob foo alice", api.OK, ""},
		{"disown alice foo dev", api.OK, ""},
		{"disown alice duo dave", api.OK, ""},
		{"disown dave duo dave", api.OK, ""},
		{"disown bob an-idle idle", api.OK, ""},
		{"disown carol webbed web", api.OK, ""},
		{"disown carol webbed carol", api.OK, ""}, // by web she is one still
		{"disown bob a-both bob", api.OK, ""},
		{"disown bob a-both ops", api.OK, ""},
		{"disown alice a-dev ops", api.OK, ""},
		{"disown erin foo alice", api.ErrWho, ""},
		{"disown dev foo dev", api.ErrWho, ""},
		{"disown alice new alice", api.ErrNone, ""},
		{"disown carol foo alice", api.ErrOwner, ""},
		{"disown carol foo carol", api.ErrOwner, ""},
		{"disown carol foo erin", api.ErrOwner, ""},
		{"disown carol bar-baz bob", api.ErrOwner, ""},
		{"disown carol lone idle", api.ErrOwner, ""},
		{"disown alice foo carol", api.ErrNone, ""},
		{"disown bob foo bob", api.ErrNone, ""},
		{"disown alice foo erin", api.ErrNone, ""},
		{"disown alice foo ops", api.ErrNone, ""},
		{"disown bob bar-baz alice", api.ErrNone, ""},
		{"disown bob bar-baz bob", api.ErrLast, ""},
		{"disown bob solo ops", api.ErrLast, ""},
		{"disown bob an-idle ops", api.ErrLast, ""},
		{"disown alice index alice", api.ErrLast, ""},
	})
}

func TestP151Teams(t *testing.T) {
	held(t, []asking{
		{"team alice new", api.OK, ""},
		{"team alice foo", api.OK, ""}, // as a package
		{"team dave erin", api.OK, ""},
		{"team erin new", api.ErrWho, ""},
		{"team erin erin", api.ErrWho, ""},
		{"team dev new", api.ErrWho, ""},
		{"team alice alice", api.ErrThere, ""},
		{"team alice dave", api.ErrThere, ""},
		{"team alice dev", api.ErrThere, ""},
		{"team alice idle", api.ErrThere, ""},
		{"join alice dev carol", api.OK, ""},
		{"join bob dev dave", api.OK, ""},
		{"join erin dev carol", api.ErrWho, ""},
		{"join dev dev carol", api.ErrWho, ""},
		{"join alice new carol", api.ErrNone, ""},
		{"join alice new erin", api.ErrNone, ""},
		{"join alice bob carol", api.ErrNone, ""},
		{"join carol dev carol", api.ErrMember, ""},
		{"join carol dev erin", api.ErrMember, ""},
		{"join carol dev alice", api.ErrMember, ""},
		{"join carol idle carol", api.ErrMember, ""}, // who left it
		{"join alice dev erin", api.ErrNone, ""},
		{"join alice dev ops", api.ErrNone, ""},
		{"join alice dev foo", api.ErrNone, ""},
		{"join alice dev alice", api.ErrThere, ""},
		{"join alice dev bob", api.ErrThere, ""},
		{"leave alice dev bob", api.OK, ""},
		{"leave alice dev alice", api.OK, ""},
		{"leave bob dev bob", api.OK, ""},
		{"leave carol web carol", api.OK, ""}, // herself she holds what web holds
		{"leave erin dev bob", api.ErrWho, ""},
		{"leave dev dev bob", api.ErrWho, ""},
		{"leave alice new alice", api.ErrNone, ""},
		{"leave alice new erin", api.ErrNone, ""},
		{"leave alice alice alice", api.ErrNone, ""},
		{"leave carol dev bob", api.ErrMember, ""},
		{"leave carol dev carol", api.ErrMember, ""},
		{"leave carol idle carol", api.ErrMember, ""},
		{"leave alice ops bob", api.ErrMember, ""},
		{"leave alice dev carol", api.ErrNone, ""},
		{"leave alice dev erin", api.ErrNone, ""},
		{"leave bob ops alice", api.ErrNone, ""},
		{"leave bob ops bob", api.ErrLast, "an-idle"}, // neither a-both nor a-dev, and ahead of apt and solo
	})
}

// Of several packages that would be nobody's the first one by names is told, in whatever order they came.
func TestP151LastOf(t *testing.T) {
	names := []string{"a", "a-b", "a0", "a10", "a2", "aa", "b"}
	for turn := range names {
		m := events("account alice 0000000000000001", "account bob 0000000000000002", "team alice dev")
		for i := range names {
			name := names[(i*3+turn)%len(names)]
			m = append(m, events(publish("alice", name, "1.0.0"), "own alice "+name+" dev", "disown alice "+name+" alice")...)
		}
		s := of(t, m)
		for _, name := range names {
			asked(t, s, m, read("leave alice dev alice"))
			refused(t, "alone", s, read("leave alice dev alice"), "leave", api.ErrLast, name)
			m = append(m, read("own alice "+name+" bob"))
			taken(t, s, m[len(m)-1])
		}
		taken(t, s, read("leave alice dev alice"))
	}
}

// What may not be is told so, whoever asks, whatever there is, and ahead of all else.
func TestP151ErrEvent(t *testing.T) {
	long := strings.Repeat("x", 1<<17)
	for _, s := range []*fold.State{fold.New(), of(t, events(base()...))} {
		for _, c := range []struct {
			word string
			e    api.Event
		}{
			{"", api.Event{}}, {"", api.Event{Kind: 11}}, {"", api.Event{Kind: 255}}, {"", api.Event{Who: "alice"}}, {"", api.Event{Kind: 12, Who: "alice", Name: "foo", Version: "1.0.0"}},
			{"account", api.Event{Kind: api.Account}}, {"account", api.Event{Kind: api.Account, Who: "Alice"}}, {"account", api.Event{Kind: api.Account, Who: "erin", Holder: "dev"}}, {"account", api.Event{Kind: api.Account, Who: long}},
			{"publish", api.Event{Kind: api.Publish, Who: "alice", Name: "Foo", Version: "1.0.1", N: 1}}, {"publish", api.Event{Kind: api.Publish, Who: "alice", Name: "foo", Version: "1.0.1"}},
			{"publish", api.Event{Kind: api.Publish, Who: "erin", Name: "Index", Version: "1.0.1", N: 1}}, {"publish", api.Event{Kind: api.Publish, Who: "alice", Name: "foo", Version: "1.0.0", N: 1, Size: api.MaxBytes + 1}},
			{"publish", api.Event{Kind: api.Publish, Who: "alice", Name: "foo", Version: "1.0.1", N: 1, Needs: []api.Need{{Name: "b", Span: "*"}, {Name: "a", Span: "*"}}}}, {"publish", api.Event{Kind: api.Publish, Who: "alice", Name: "foo", Version: "1.0.1", N: 1, Needs: make([]api.Need, 1<<16)}},
			{"yank", api.Event{Kind: api.Yank, Who: "alice", Name: "foo", Version: "1.0"}}, {"yank", api.Event{Kind: api.Yank, Who: "erin", Name: "\xff", Version: "1.0.0"}}, {"yank", api.Event{Kind: api.Yank, Who: "", Name: "foo", Version: "1.0.0"}},
			{"unyank", api.Event{Kind: api.Unyank, Who: "alice", Name: "foo", Version: "1.1.0", Note: "x"}}, {"deprecate", api.Event{Kind: api.Deprecate, Who: "alice", Name: "foo", Version: "1.0.0", Note: strings.Repeat("x", api.MaxNote+1)}},
			{"own", api.Event{Kind: api.Own, Who: "alice", Name: "foo"}}, {"own", api.Event{Kind: api.Own, Who: "carol", Name: "new", Holder: "A"}}, {"disown", api.Event{Kind: api.Disown, Who: "alice", Name: "foo", Holder: "Alice"}},
			{"team", api.Event{Kind: api.Team, Who: "alice"}}, {"team", api.Event{Kind: api.Team, Who: "alice", Holder: "2"}}, {"join", api.Event{Kind: api.Join, Who: "alice", Holder: "dev"}}, {"join", api.Event{Kind: api.Join, Who: "erin", Holder: "new", Note: "é"}},
			{"leave", api.Event{Kind: api.Leave, Who: "alice", Holder: "dev", Note: "bob", Sum: 1}}, {"leave", api.Event{Kind: api.Leave, Who: long, Holder: long, Note: long}},
		} {
			refused(t, "what may not be", s, c.e, c.word, api.ErrEvent, "")
		}
	}
}

// Of no events all but an Account is nobody's to do.
func TestP151New(t *testing.T) {
	for _, line := range base() {
		word, _, _ := strings.Cut(line, " ")
		if word == "account" {
			taken(t, fold.New(), read(line))
		} else {
			refused(t, line, fold.New(), read(line), word, api.ErrWho, "")
		}
	}
}

func TestP151All(t *testing.T) {
	l := events(base()[:len(base())-4]...)
	for n := range len(l) + 1 {
		s, at, err := rule.All(l[:n]...)
		if at != n || err != nil || !fold.Same(s, of(t, l[:n])) {
			t.Fatalf("All of %d events = %d, %v, or not what they make", n, at, err)
		}
		for _, c := range []struct {
			e  api.Event
			no api.Errno
		}{
			{read("yank erin foo 1.0.0"), api.ErrWho},
			{read("account alice 00000000000000a1"), api.ErrThere},
			{api.Event{Kind: 77}, api.ErrEvent},
			{api.Event{Kind: api.Team, Who: "\x00"}, api.ErrEvent},
		} {
			if n == 0 && c.no == api.ErrThere {
				continue
			}
			with := slices.Insert(slices.Clone(l), n, c.e, api.Event{}) // the first one is told
			s, at, err := rule.All(with...)
			word, _ := event.Word(c.e.Kind)
			faulty(t, "All", err, word, n, c.no, "")
			if s != nil || at != n {
				t.Errorf("All with what is refused at %d = %v, %d", n, s, at)
			}
		}
	}
	if s, at, err := rule.All(); !fold.Same(s, fold.New()) || at != 0 || err != nil {
		t.Errorf("All() = %d, %v", at, err)
	}
	a, _, _ := rule.All(l...)
	if b, _, _ := rule.All(l...); a == b {
		t.Error("two states of All are one")
	}
}

// What fits and may not be done is no part of All, and the name that is told goes with it.
func TestP151AllRefused(t *testing.T) {
	l := events(base()[:len(base())-4]...)
	n := len(l)
	for _, c := range []asking{
		{publish("alice", "index", "1.0.0"), api.ErrReserved, ""},
		{publish("dave", "foo", "2.0.0"), api.ErrOwner, ""},
		{publish("dave", "f-oo", "2.0.0"), api.ErrLike, "foo"},
		{"account erin 0000000000000000", api.ErrThere, ""},
		{"join dave dev dave", api.ErrMember, ""},
		{"disown bob solo ops", api.ErrLast, ""},
		{"leave bob ops bob", api.ErrLast, "an-idle"},
	} {
		s, at, err := rule.All(append(l[:n:n], read(c.line), read(publish("alice", "foo", "3.0.0")))...)
		word, _, _ := strings.Cut(c.line, " ")
		faulty(t, "All", err, word, n, c.no, c.of)
		if s != nil || at != n {
			t.Errorf("All with %s = %v, %d", c.line, s, at)
		}
	}
}
