package fold_test

import (
	"slices"
	"strings"
	"testing"

	"yankline/api"
	"yankline/fold"
)

// base are lines of events of all kinds, of which each fits behind those ahead. Behind them bob and alice hold bar-baz, and nobody is in ops.
func base() []string {
	return []string{
		"account alice 00000000000000a1",
		"account bob 0000000000000b0b",
		"account carol ffffffffffffffff",
		"team alice dev",
		"publish alice foo 1.0.0 0 0000000000000000 1 0",
		"publish alice foo 1.1.0 1 bar-baz >=0.9.0_<1.0.0-0 0123456789abcdef 2 65536",
		"yank alice foo 1.1.0",
		"deprecate alice foo 1.0.0 6f6b",
		"own alice foo dev",
		"join alice dev bob",
		"publish bob bar-baz 0.9.0 2 aa * foo =1.0.0 00000000000000ff 3 7",
		"own carol bar-baz alice",
		"team bob ops",
		"leave carol ops bob",
	}
}

func TestP101Examples(t *testing.T) {
	s := of(t, "account alice 0000000000000001", "publish alice foo 1.0.0 0 0000000000000000 1 0")
	holders, is := s.Holders("foo")
	r, released := s.Release("foo", "1.0.0")
	if s.Head() != 2 || !slices.Equal(holders, []string{"alice"}) || !is || r.At != 2 || !released {
		t.Errorf("Head, Holders, Release = %d, %q, %t, %v, %t", s.Head(), holders, is, r, released)
	}
	for _, line := range []string{
		"publish alice f-oo 1.0.0 0 0000000000000000 1 0",
		"publish bob foo 2.0.0 0 0000000000000000 1 0",
		"yank alice foo 2.0.0",
	} {
		refused(t, s, read(line), api.ErrFold)
	}
	refused(t, s, api.Event{}, api.ErrEvent)
	if other, is := s.Like("F.OO"); other != "foo" || !is {
		t.Errorf("Like(F.OO) = %q, %t", other, is)
	}
	none, at, err := fold.Of(events("account alice 0000000000000001", "account alice 0000000000000002")...)
	faulty(t, "Of of alice twice", err, api.ErrFold, "account", 1)
	if none != nil || at != 1 {
		t.Errorf("Of of alice twice = %v, %d", none, at)
	}
}

func TestP101New(t *testing.T) {
	same(t, "New", fold.New(), nil)
	s, at, err := fold.Of()
	if at != 0 || err != nil || !fold.Same(s, fold.New()) {
		t.Errorf("Of() = %d, %v", at, err)
	}
	if a, b := fold.New(), fold.New(); a == b || !fold.Same(a, b) {
		t.Error("two new states are one, or are not the same")
	}
}

// Of each kind: what each thing that it asks for is worth, the others being so.
func TestP101Fits(t *testing.T) {
	for _, c := range []struct {
		line string
		fits bool
	}{
		{"account dave 0000000000000000", true},
		{"account dave 00000000000000a1", true}, // whose token it is is not asked for
		{"account alice 0000000000000000", false},
		{"account dev 0000000000000000", false},
		{"account ops 0000000000000000", false},
		{"account foo 0000000000000000", true},
		{"publish alice foo 1.0.1 0 0000000000000000 1 0", true},
		{"publish carol foo 1.0.1 0 0000000000000000 1 0", true}, // who may do it is not asked for
		{"publish dave foo 1.0.1 0 0000000000000000 1 0", false},
		{"publish dev foo 1.0.1 0 0000000000000000 1 0", false},
		{"publish alice foo 1.0.0 0 0000000000000000 1 0", false},
		{"publish alice foo 1.1.0 0 0000000000000000 1 0", false},
		{"publish alice bar-baz 1.0.0 0 0000000000000000 1 0", true},
		{"publish alice f-oo 9.0.0 0 0000000000000000 1 0", false},
		{"publish alice f-o-o 9.0.0 0 0000000000000000 1 0", false},
		{"publish alice barbaz 9.0.0 0 0000000000000000 1 0", false},
		{"publish alice b-arbaz 9.0.0 0 0000000000000000 1 0", false},
		{"publish alice new 1.0.0 0 0000000000000000 1 0", true},
		{"publish dave new 1.0.0 0 0000000000000000 1 0", false},
		{"publish alice index 1.0.0 0 0000000000000000 1 0", true},                            // reserved names are not asked for
		{"publish alice new 1.0.0 2 new =9.0.0 nobody * 0000000000000000 4294967295 1", true}, // nor what is needed
		{"yank alice foo 1.0.0", true},
		{"yank carol foo 1.0.0", true},
		{"yank dave foo 1.0.0", false},
		{"yank dev foo 1.0.0", false},
		{"yank alice foo 1.1.0", false},
		{"yank alice foo 1.0.1", false},
		{"yank alice new 1.0.0", false},
		{"yank alice f-oo 1.0.0", false},
		{"unyank alice foo 1.1.0", true},
		{"unyank carol foo 1.1.0", true},
		{"unyank dave foo 1.1.0", false},
		{"unyank alice foo 1.0.0", false},
		{"unyank alice foo 1.0.1", false},
		{"unyank alice new 1.1.0", false},
		{"deprecate alice foo 1.0.0 6f", true},
		{"deprecate alice foo 1.0.0 -", true},
		{"deprecate alice foo 1.1.0 6f6b", true},
		{"deprecate carol foo 1.0.0 -", true},
		{"deprecate dave foo 1.0.0 -", false},
		{"deprecate alice foo 1.0.0 6f6b", false},
		{"deprecate alice foo 1.1.0 -", false},
		{"deprecate alice foo 1.0.1 6f6b", false},
		{"deprecate alice foo 1.0.1 -", false},
		{"deprecate alice new 1.0.0 6f6b", false},
		{"own alice foo carol", true},
		{"own alice foo ops", true},
		{"own carol foo carol", true},
		{"own dave foo carol", false},
		{"own alice foo alice", false},
		{"own alice foo dev", false},
		{"own alice foo dave", false},
		{"own alice new carol", false},
		{"own alice f-oo carol", false},
		{"disown alice foo alice", true}, // nor is whether somebody is left
		{"disown alice foo dev", true},
		{"disown carol foo dev", true},
		{"disown dave foo dev", false},
		{"disown alice foo carol", false},
		{"disown alice foo bob", false}, // who is in a team that holds it
		{"disown alice foo dave", false},
		{"disown alice new alice", false},
		{"team alice web", true},
		{"team dave web", false},
		{"team alice dave", true},
		{"team alice carol", false},
		{"team alice alice", false},
		{"team alice dev", false},
		{"team alice ops", false},
		{"team alice foo", true},
		{"join alice dev carol", true},
		{"join carol dev carol", true},
		{"join dave dev carol", false},
		{"join alice dev alice", false},
		{"join alice dev bob", false},
		{"join alice dev dave", false},
		{"join alice dev ops", false},
		{"join alice ops bob", true},
		{"join alice web carol", false},
		{"join alice bob carol", false},
		{"leave alice dev bob", true},
		{"leave carol dev alice", true},
		{"leave dave dev bob", false},
		{"leave alice dev carol", false},
		{"leave alice dev dave", false},
		{"leave bob ops bob", false},
		{"leave alice web alice", false},
	} {
		s, m, e := of(t, base()...), model(events(base()...)), read(c.line)
		if m.fits(e) != c.fits {
			t.Fatalf("the model: fits(%s) is not %t", c.line, c.fits)
		}
		if !c.fits {
			refused(t, s, e, api.ErrFold)
			continue
		}
		taken(t, s, e)
		same(t, c.line, s, append(m, e))
	}
}

// What each event makes, one behind the other.
func TestP101Apply(t *testing.T) {
	s, m := fold.New(), model{}
	for _, e := range events(base()...) {
		taken(t, s, e)
		m = append(m, e)
		same(t, "Apply", s, m)
	}
	for _, line := range []string{ // there and back
		"unyank carol foo 1.1.0", "yank bob foo 1.1.0", "deprecate bob foo 1.0.0 -", "deprecate bob foo 1.0.0 6f6b",
		"disown bob foo dev", "disown bob foo alice", "own bob foo ops", "publish carol foo 0.9.0 0 0000000000000001 1 1",
		"leave bob dev alice", "leave bob dev bob", "join bob dev carol", "join bob ops bob",
	} {
		taken(t, s, read(line))
		m = append(m, read(line))
		same(t, line, s, m)
	}
}

// An event that may not be is ErrEvent, whatever there is, also if it would not fit either.
func TestP101ErrEvent(t *testing.T) {
	for _, e := range []api.Event{
		{}, {Kind: 11}, {Kind: 255}, {Kind: api.NoEvent, Who: "alice"},
		{Kind: api.Account, Who: "Alice"}, {Kind: api.Account, Who: ""}, {Kind: api.Account, Who: "dave", Name: "foo"}, {Kind: api.Account, Who: strings.Repeat("a", 1<<17)},
		{Kind: api.Publish, Who: "alice", Name: "foo", Version: "1.0.1"}, {Kind: api.Publish, Who: "alice", Name: "Foo", Version: "1.0.1", N: 1},
		{Kind: api.Publish, Who: "alice", Name: "foo", Version: "1.0", N: 1}, {Kind: api.Publish, Who: "alice", Name: "foo", Version: "1.0.1", N: 1, Needs: []api.Need{{Name: "a", Span: "1.0.0"}}},
		{Kind: api.Publish, Who: "alice", Name: "foo", Version: "1.0.1", N: 1, Needs: make([]api.Need, 1<<16)}, {Kind: api.Publish, Who: "alice", Name: "foo", Version: "1.0.1", N: 1, Size: 65537},
		{Kind: api.Yank, Who: "alice", Name: "foo", Version: "1.0.0", Note: "x"}, {Kind: api.Yank, Who: "nobody", Name: "\xff", Version: "1.0.0"},
		{Kind: api.Unyank, Who: "alice", Name: "foo", Version: "1.1.0", Holder: "alice"},
		{Kind: api.Deprecate, Who: "alice", Name: "foo", Version: "1.0.0", Note: strings.Repeat("x", 257)},
		{Kind: api.Own, Who: "alice", Name: "foo", Holder: ""}, {Kind: api.Disown, Who: "alice", Name: "foo", Holder: "DEV"},
		{Kind: api.Team, Who: "alice"}, {Kind: api.Join, Who: "alice", Holder: "dev"}, {Kind: api.Leave, Who: "alice", Holder: "dev", Note: "bob", Sum: 1},
	} {
		refused(t, of(t, base()...), e, api.ErrEvent)
		refused(t, fold.New(), e, api.ErrEvent)
	}
}

func TestP101Of(t *testing.T) {
	l := events(base()...)
	for n := range len(l) + 1 {
		s, at, err := fold.Of(l[:n]...)
		if at != n || err != nil {
			t.Fatalf("Of of %d events = %d, %v", n, at, err)
		}
		same(t, "Of", s, l[:n])
	}
	for n := range len(l) + 1 {
		for _, c := range []struct {
			e    api.Event
			want api.Errno
			word string
		}{
			{read("yank alice foo 2.0.0"), api.ErrFold, "yank"},
			{read("join alice web bob"), api.ErrFold, "join"},
			{api.Event{Kind: 77}, api.ErrEvent, ""},
			{api.Event{Kind: api.Team, Who: "\x00"}, api.ErrEvent, "team"},
		} {
			with := slices.Insert(slices.Clone(l), n, c.e, api.Event{}) // the first one is told
			s, at, err := fold.Of(with...)
			faulty(t, "Of", err, c.want, c.word, n)
			if s != nil || at != n {
				t.Errorf("Of with what does not fit at %d = %v, %d", n, s, at)
			}
		}
	}
}

func TestP102Copy(t *testing.T) {
	further := []string{
		"account dave 0000000000000000", "publish alice foo 1.0.1 0 0000000000000000 1 0", "publish alice foo 0.10.0 0 0000000000000000 1 0", "publish alice zoo 1.0.0 0 0000000000000000 1 0",
		"yank alice foo 1.0.0", "unyank alice foo 1.1.0", "deprecate alice foo 1.0.0 -", "own alice foo carol", "disown alice foo dev", "team alice web", "join alice dev carol", "leave alice dev bob",
	}
	for _, n := range []int{7, len(base())} {
		s, m := of(t, base()[:n]...), model(events(base()[:n]...))
		if c := s.Copy(); c == s || !fold.Same(c, s) {
			t.Errorf("a copy of the state of %d events is not another one with the same", n)
		}
		for _, first := range further {
			for _, second := range further {
				a := s.Copy()
				b := a.Copy()
				both(t, first, a, m)
				both(t, second, b, m)
				both(t, second, a.Copy(), append(m[:n:n], fitting(m, first)...))
			}
		}
		same(t, "what copies were made of", s, m)
	}
}

// Copies of a state with n releases of a package, to each of which another one is added, ahead of these, between them or behind them.
func TestP102CopyReleases(t *testing.T) {
	lines := []string{"account alice 0000000000000001"}
	publish := func(version string) string { return "publish alice foo " + version + " 0 0000000000000001 1 1" }
	all := versions()
	for i := 1; i < len(all)-1; i += 2 {
		lines = append(lines, publish(all[i]))
		s, m := of(t, lines...), model(events(lines...))
		var copies []*fold.State
		var added []string
		for j := 0; j < len(all); j += 2 {
			copies, added = append(copies, s.Copy()), append(added, publish(all[j]))
		}
		for j, c := range copies {
			taken(t, c, read(added[j]))
		}
		for j, c := range copies {
			same(t, added[j], c, append(m[:len(m):len(m)], read(added[j])))
		}
		same(t, "what copies were made of", s, m)
	}
}

// fitting is the event of the line, if it fits.
func fitting(m model, line string) []api.Event {
	if e := read(line); m.fits(e) {
		return []api.Event{e}
	}
	return nil
}

// both does the line's event to a state and to its model, and holds that they tell the same.
func both(t *testing.T, line string, s *fold.State, m model) {
	t.Helper()
	l := fitting(m, line)
	if err := s.Apply(read(line)); (err == nil) != (len(l) == 1) {
		t.Errorf("Apply(%s): %v", line, err)
	}
	same(t, line, s, append(m[:len(m):len(m)], l...))
}

// Each of these is another state than all others of them; of many pairs of them one thing alone is unlike.
func TestP102Same(t *testing.T) {
	publish := "publish alice foo 1.0.0 1 zoo * 0000000000000001 1 1"
	var states []*fold.State
	for _, l := range [][]string{
		{"publish alice foo 1.0.0 1 zoo * 0000000000000001 1 1"},
		{"publish alice foo 1.0.0 1 zoo * 0000000000000002 1 1"},
		{"publish alice foo 1.0.0 1 zoo * 0000000000000001 2 1"},
		{"publish alice foo 1.0.0 1 zoo * 0000000000000001 1 2"},
		{"publish alice foo 1.0.0 0 0000000000000001 1 1"},
		{"publish alice foo 1.0.0 1 zoo ! 0000000000000001 1 1"},
		{"publish alice foo 1.0.0 1 zoos * 0000000000000001 1 1"},
		{"publish alice foo 1.0.0 2 zoo * zoos * 0000000000000001 1 1"},
		{"publish alice foo 1.0.1 1 zoo * 0000000000000001 1 1"},
		{"publish alice bar 1.0.0 1 zoo * 0000000000000001 1 1"},
		{"publish bob foo 1.0.0 1 zoo * 0000000000000001 1 1"},
		{"account carol 0000000000000001"},
		{"account carol 0000000000000002"},
		{"account dave 0000000000000001"},
		{"team alice dev"}, {"team alice ops"}, {"team bob dev"},
		{"team alice dev", "join alice dev bob"},
		{"team alice dev", "leave alice dev alice"},
		{"team alice ops", "leave alice ops alice"},
		{"team alice dev", "team bob ops"}, {"team bob ops", "team alice dev", "join alice dev bob", "leave alice dev bob"},
		{publish, "yank alice foo 1.0.0"},
		{publish, "deprecate alice foo 1.0.0 6f"}, {publish, "deprecate alice foo 1.0.0 6b"},
		{publish, "own alice foo bob"}, {publish, "disown alice foo alice"},
		{publish, "yank alice foo 1.0.0", "unyank alice foo 1.0.0"},
		{"account carol 0000000000000001", "account dave 0000000000000002"},
		{"account carol 0000000000000002", "account dave 0000000000000001"},
		// Touched alone is unlike:
		{"team alice dev", publish, "join alice dev bob", "leave alice dev bob"},
		{"team alice dev", publish, "own alice foo bob", "disown alice foo bob"},
		// By alone, and At alone; of the last two Yanked alone:
		{publish, "publish alice foo 1.0.1 0 0000000000000001 1 1"},
		{publish, "publish bob foo 1.0.1 0 0000000000000001 1 1"},
		{"publish alice foo 1.0.1 0 0000000000000001 1 1", publish},
		{publish, "publish alice foo 1.0.1 0 0000000000000001 1 1", "yank alice foo 1.0.0"},
		{publish, "publish alice foo 1.0.1 0 0000000000000001 1 1", "yank alice foo 1.0.1"},
		{},
	} {
		lines := append([]string{"account alice 0000000000000001", "account bob 0000000000000002"}, l...)
		states = append(states, of(t, lines...))
		states = append(states, of(t, append(lines, "team bob web", "leave bob web bob", "join bob web bob")...))
	}
	states = append(states, fold.New(), of(t, base()...))
	for i, a := range states {
		for j, b := range states {
			if fold.Same(a, b) != (i == j) || fold.Same(a, b.Copy()) != (i == j) || fold.Same(a.Copy(), b) != (i == j) {
				t.Errorf("Same of the states %d and %d is not %t", i, j, i == j)
			}
		}
	}
}

// Who joined somebody, or yanked something, is not kept, and neither is the order in which accounts came to be.
func TestP102SameByOtherWays(t *testing.T) {
	a, b := "account alice 0000000000000001", "account bob 0000000000000002"
	for _, l := range [][2][]string{
		{{a, b}, {b, a}},
		{{a, b, "team alice dev", "join alice dev bob"}, {b, a, "team bob dev", "join bob dev alice"}},
		{{a, b, "publish alice foo 1.0.0 0 0000000000000001 1 1", "yank alice foo 1.0.0"}, {b, a, "publish alice foo 1.0.0 0 0000000000000001 1 1", "yank bob foo 1.0.0"}},
	} {
		if !fold.Same(of(t, l[0]...), of(t, l[1]...)) {
			t.Errorf("Same of the states of %q and %q = false", l[0], l[1])
		}
	}
}
