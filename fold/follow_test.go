package fold_test

import (
	"fmt"
	"math/rand/v2"
	"slices"
	"strings"
	"testing"

	"yankline/api"
	"yankline/fold"
	"yankline/version"
)

// pool are events of all kinds that have to do with one another, of few names.
func pool() []api.Event {
	var lines []string
	add := func(line string) { lines = append(lines, line) }
	for _, who := range []string{"alice", "bob", "dev"} {
		add("account " + who + " 0000000000000001")
		add("account " + who + " 0000000000000002")
		for _, holder := range []string{"dev", "ops", "bob"} {
			add("team " + who + " " + holder)
			for _, note := range []string{"alice", "bob", "ops"} {
				add("join " + who + " " + holder + " " + note)
				add("leave " + who + " " + holder + " " + note)
			}
		}
		for _, name := range []string{"foo", "f-oo", "a-b", "aa"} {
			for _, version := range []string{"1.9.0", "1.10.0", "1.0.0-a"} {
				add("publish " + who + " " + name + " " + version + " 0 0000000000000003 1 9")
				add("publish " + who + " " + name + " " + version + " 1 bar * 0000000000000004 2 8")
				add("yank " + who + " " + name + " " + version)
				add("unyank " + who + " " + name + " " + version)
				add("deprecate " + who + " " + name + " " + version + " -")
				add("deprecate " + who + " " + name + " " + version + " 20")
			}
			for _, holder := range []string{"alice", "bob", "dev", "ops"} {
				add("own " + who + " " + name + " " + holder)
				add("disown " + who + " " + name + " " + holder)
			}
		}
	}
	return events(lines...)
}

// script is one of n events of l, of which at least some three in four fit behind those ahead.
func script(r *rand.Rand, l []api.Event, n int) []api.Event {
	var m model
	var done []api.Event
	for range n {
		order := r.Perm(len(l))
		fitting := slices.IndexFunc(order, func(i int) bool { return m.fits(l[i]) })
		e := l[order[fitting]]
		if r.IntN(4) == 0 {
			e = l[order[0]]
		}
		if m.fits(e) {
			m = append(m, e)
		}
		done = append(done, e)
	}
	return done
}

// Scripts, event by event: what is taken, what is told behind it, that nothing is lost, and that it is sound.
func TestP104P105Scripts(t *testing.T) {
	r := rand.New(rand.NewPCG(10, 4))
	l := pool()
	taken := 0
	for range 40 {
		s, m := fold.New(), model{}
		var first []api.Release // as they were published
		for _, e := range script(r, l, 60) {
			fits := m.fits(e)
			if err := s.Apply(e); (err == nil) != fits {
				t.Fatalf("behind %v Apply(%v): %v, want %t", m, e, err, fits)
			}
			if fits {
				m = append(m, e)
				taken++
			}
			same(t, "a script", s, m)
			if fits && e.Kind == api.Publish {
				release, _ := s.Release(e.Name, e.Version)
				first = append(first, release)
			}
			onlyMore(t, s, m, first)
			sound(t, s)
		}
		for _, e := range l {
			if err := s.Fits(e); (err == nil) != m.fits(e) {
				t.Errorf("behind %v Fits(%v): %v, want %t", m, e, err, m.fits(e))
			}
		}
		same(t, "what was asked for what fits", s, m)
	}
	if taken < 1200 {
		t.Errorf("of the scripts but %d events were taken", taken)
	}
}

// onlyMore holds that each release is there as it was published, beside whether it is yanked, and its note.
func onlyMore(t *testing.T, s *fold.State, m model, first []api.Release) {
	t.Helper()
	if s.Head() != len(m) {
		t.Errorf("behind %d events Head = %d", len(m), s.Head())
	}
	for _, was := range first {
		r, is := s.Release(m[was.At-1].Name, was.Version)
		r.Yanked, r.Note = false, ""
		if !is || fmt.Sprint(r) != fmt.Sprint(was) {
			t.Errorf("the release %v is %v, %t", was, r, is)
		}
	}
}

// sound holds what is so in each state: of squashes, of accounts and teams, and of revisions.
func sound(t *testing.T, s *fold.State) {
	t.Helper()
	squashes, at := map[string]int{}, map[int]int{}
	for name := range s.Packages() {
		squashes[strings.ReplaceAll(name, "-", "")]++
		for _, r := range s.Releases(name) {
			at[r.At]++
			if squashes[strings.ReplaceAll(name, "-", "")] > 1 || at[r.At] > 1 || r.At < 1 || r.At > s.Head() {
				t.Errorf("%s has %v, as another one has", name, r)
			}
		}
	}
	for _, team := range s.Teams() {
		if slices.Contains(s.Accounts(), team) {
			t.Errorf("there are an account and a team %s", team)
		}
	}
}

// Of what shares a squash, or the name of a holder, the first one alone is taken, whatever comes of it.
func TestP105(t *testing.T) {
	ahead := []string{"account alice 0000000000000001", "publish alice other 1.0.0 0 0000000000000001 1 1"}
	names := []string{"a-b-c", "abc", "a-bc", "ab-c"}
	for i, first := range names {
		s := of(t, append(ahead, "publish alice "+first+" 1.0.0 0 0000000000000001 1 1", "disown alice "+first+" alice", "yank alice "+first+" 1.0.0")...)
		for j, second := range names {
			e := read("publish alice " + second + " 2.0.0 0 0000000000000002 1 1")
			if i == j {
				taken(t, s, e)
			} else {
				refused(t, s, e, api.ErrFold)
			}
			sound(t, s)
		}
	}
	for _, first := range []string{"account x 0000000000000001", "team alice x"} {
		s := of(t, append(ahead, first)...)
		for _, second := range []string{"account x 0000000000000001", "account x 0000000000000002", "team alice x"} {
			refused(t, s, read(second), api.ErrFold)
			sound(t, s)
		}
	}
	s := of(t, append(ahead, "team alice x", "leave alice x alice", "publish alice x 1.0.0 0 0000000000000001 1 1")...)
	refused(t, s, read("account x 0000000000000001"), api.ErrFold)
	refused(t, s, read("team alice x"), api.ErrFold)
}

// Of of some events and Apply of the others is Of of all, wherever the cut is; with what does not fit there is none.
func TestP104Parts(t *testing.T) {
	r := rand.New(rand.NewPCG(10, 5))
	l := pool()
	for range 10 {
		all := script(r, l, 40)
		var m model
		for i, e := range all {
			if !m.fits(e) {
				s, at, err := fold.Of(append(m[:len(m):len(m)], all[i:]...)...)
				if s != nil || at != len(m) || err == nil {
					t.Errorf("Of with what does not fit at %d = %v, %d, %v", len(m), s, at, err)
				}
				continue
			}
			m = append(m, e)
		}
		whole, _, err := fold.Of(m...)
		if err != nil {
			t.Fatalf("Of: %v", err)
		}
		for cut := range len(m) + 1 {
			s, _, _ := fold.Of(m[:cut]...)
			ahead := s.Copy()
			for i, e := range m[cut:] {
				if fold.Same(s, whole) || s.Head() != cut+i {
					t.Errorf("of %d events %d make what all make", len(m), cut+i)
				}
				if err := s.Apply(e); err != nil {
					t.Errorf("Apply: %v", err)
				}
			}
			if !fold.Same(s, whole) || !fold.Same(whole, s) || fold.Same(ahead, s) != (cut == len(m)) {
				t.Errorf("of %d events the first %d and then the others make something else than all", len(m), cut)
			}
			same(t, "what a copy was made of", ahead, m[:cut])
		}
	}
}

// Whether two states are the same is whether they tell the same.
func TestP104Same(t *testing.T) {
	r := rand.New(rand.NewPCG(10, 6))
	l := slices.DeleteFunc(pool(), func(e api.Event) bool { return e.Name != "" && e.Name != "foo" || e.Who == "dev" })
	var states []*fold.State
	var texts []string
	for range 120 {
		s := of(t, "account alice 0000000000000001", "account bob 0000000000000002", "publish alice foo 1.9.0 0 0000000000000003 1 9")
		for range 3 {
			s.Apply(l[r.IntN(len(l))])
		}
		states, texts = append(states, s), append(texts, strings.Join(said(s), "\n"))
	}
	alike := 0
	for i, a := range states {
		for j, b := range states {
			if fold.Same(a, b) != (texts[i] == texts[j]) {
				t.Errorf("Same is not %t of\n%s\nand\n%s", texts[i] == texts[j], texts[i], texts[j])
			}
			if i < j && texts[i] == texts[j] {
				alike++
			}
		}
	}
	if alike < 100 {
		t.Errorf("but %d pairs of states are the same", alike)
	}
}

// As many events as a log may have, of one package and of many ones.
func TestP104Many(t *testing.T) {
	s, _, err := fold.Of(read("account alice 0000000000000001"))
	for i := 1; i < api.MaxEvents && err == nil; i += 2 {
		version := fmt.Sprint(i%97, ".", i, ".0")
		err = s.Apply(api.Event{Kind: api.Publish, Who: "alice", Name: "one", Version: version, N: 1})
		if err == nil {
			err = s.Apply(api.Event{Kind: api.Publish, Who: "alice", Name: fmt.Sprint("n-", i), Version: version, N: 1})
		}
	}
	if err != nil || s.Head() != api.MaxEvents+1 || s.Touched("one") != api.MaxEvents {
		t.Fatalf("%v; Head, Touched = %d, %d", err, s.Head(), s.Touched("one"))
	}
	n := 0
	for name := range s.Packages() {
		l := s.Releases(name)
		for i := range l[1:] {
			if c, no := version.Order(l[i].Version, l[i+1].Version); c != -1 || no != api.OK {
				t.Errorf("%s has %s behind %s", name, l[i+1].Version, l[i].Version)
			}
		}
		n += len(l)
	}
	if n != api.MaxEvents || !fold.Same(s, s.Copy()) {
		t.Errorf("there are %d releases", n)
	}
}
