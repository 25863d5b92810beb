package store_test

import (
	"fmt"
	"maps"
	"math/rand/v2"
	"slices"
	"strings"
	"testing"

	"yankline/api"
	"yankline/disk"
	"yankline/event"
	"yankline/fold"
	"yankline/rule"
	"yankline/store"
)

// pool are events of all kinds but publish, of few names.
func pool() []api.Event {
	var l []string
	add := func(more ...string) { l = append(l, more...) }
	for _, who := range []string{"alice", "bob", "carol"} {
		add("account " + who + " 00000000000000" + fmt.Sprintf("%02x", who[0]))
		for _, holder := range []string{"dev", "ops", "bob"} {
			add("team " + who + " " + holder)
			for _, note := range []string{"alice", "bob", "carol"} {
				add("join "+who+" "+holder+" "+note, "leave "+who+" "+holder+" "+note)
			}
		}
		for _, name := range names() {
			for _, version := range versions() {
				of := " " + who + " " + name + " " + version
				add("yank"+of, "unyank"+of, "deprecate"+of+" -", "deprecate"+of+" 0a", "deprecate"+of+" "+strings.Repeat("ff", 40))
			}
			for _, holder := range []string{"alice", "bob", "dev", "ops"} {
				add("own "+who+" "+name+" "+holder, "disown "+who+" "+name+" "+holder)
			}
		}
	}
	return lines(l...)
}

func names() []string { return []string{"foo", "f-oo", "a-b", "log", "zoo"} }

func versions() []string { return []string{"1.9.0", "1.10.0", "2.0.0-rc"} }

// texts are bytes of which many have one sum, and of which some need many raw writes.
func texts() []string {
	return []string{alike(0), alike(1), alike(2), alike(3), "", "abc", strings.Repeat("x", 32), strings.Repeat("x", 150)}
}

// some is one of the values.
func some[T any](r *rand.Rand, l []T) T { return l[r.IntN(len(l))] }

// script is a run with what is drawn for it.
type script struct {
	*run
	r    *rand.Rand
	l    []api.Event
	held map[string]string // by name and version, the bytes of each publish that was acknowledged, or stood in the log behind a cut
}

// next is an event of the pool: one that may be done, two times in three, if there is one.
func (s *script) next() api.Event {
	order := s.r.Perm(len(s.l))
	if s.r.IntN(3) > 0 {
		at := slices.IndexFunc(order, func(i int) bool { return rule.Check(s.m.state, s.l[i]) == nil })
		return s.l[order[max(at, 0)]]
	}
	return s.l[order[0]]
}

// step does one call.
func (s *script) step() {
	s.t.Helper()
	if s.r.IntN(3) > 0 {
		s.do(s.next())
		return
	}
	who, name, version, bytes := some(s.r, []string{"alice", "bob", "carol"}), some(s.r, names()), some(s.r, versions()), some(s.r, texts())
	needs := []api.Need{{Name: "a", Span: "*"}, {Name: "b", Span: "=1.0.0"}}[:s.r.IntN(3)]
	head := len(s.m.events)
	s.publish(who, name, version, needs, bytes)
	if len(s.m.events) > head {
		s.holds(name+" "+version, bytes)
	}
}

// holds keeps which bytes a version has: there are none as yet.
func (s *script) holds(of, bytes string) {
	s.t.Helper()
	if was, is := s.held[of]; is {
		s.t.Errorf("%s is published twice, with %.30q and %.30q", of, was, bytes)
	}
	s.held[of] = bytes
}

// forEver holds that each version has its bytes, as long as the disk lives.
func (s *script) forEver() {
	s.t.Helper()
	if s.d.Dead() {
		return
	}
	for of, bytes := range s.held {
		name, version, _ := strings.Cut(of, " ")
		if got, err := s.s.Get(name, version); got != bytes || err != nil {
			s.t.Errorf("Get of %s = %.30q, %v, want %.30q", of, got, err, bytes)
		}
	}
}

// reopened starts the disk again and opens it, with that cut ahead, and as many further ones as it takes; then the disk is whole.
func (s *script) reopened(cut int) {
	s.t.Helper()
	for s.power(cut); !s.open(); s.power(cut) {
		cut += 1 + s.r.IntN(3)
	}
	s.whole()
}

// whole holds that the disk has what the log says, and nothing else: an Open of a copy is no raw write, and the same store.
func (s *script) whole() {
	s.t.Helper()
	want := logged(payloads(s.m.events)...)
	for _, e := range s.m.events {
		if e.Kind == api.Publish {
			want[blobFile(e.Sum, e.N)] = s.held[e.Name+" "+e.Version]
		}
	}
	for name := range s.m.state.Packages() {
		want["page/"+name], _ = s.m.text(name)
	}
	files := maps.Clone(s.m.files)
	if last := logFile(len(s.m.events)/64 + 1); want[last] == "" && files[last] == "" {
		delete(files, last) // of which a cut has left the first raw write
	}
	if !maps.Equal(files, want) {
		s.t.Errorf("the files are %q, want %q", slices.Sorted(maps.Keys(files)), slices.Sorted(maps.Keys(want)))
	}
	if s.d.Dead() {
		s.power(-1)
	}
	d := s.d.Copy()
	fine(s.t, "Restart", d.Restart(0))
	again, err := store.Open(d)
	fine(s.t, "Open again", err)
	if d.Writes() != 0 || !disk.Same(d, s.d) || !fold.Same(again.State(), s.s.State()) || again.Broken() {
		s.t.Errorf("Open again: %d raw writes", d.Writes())
	}
}

// acts is a script that is put together out of the pool, the same one for the same seed.
func acts(t *testing.T, seed uint64) *script {
	t.Helper()
	return &script{begun(t, nil), rand.New(rand.NewPCG(17, seed)), pool(), map[string]string{}}
}

// Long scripts with cuts anywhere, in Open too, hold against the model; each event whose call answered nil is there for ever, and each version's bytes.
func TestP176Scripts(t *testing.T) {
	kinds := map[api.Kind]int{}
	cuts := 0
	for seed := range uint64(40) {
		s := acts(t, seed)
		for range 10 {
			s.power(s.r.IntN(200) - 20)
			for range 30 {
				s.step()
				s.forEver()
				if s.s.Broken() {
					cuts++
					break
				}
			}
			ahead := s.m.events
			s.reopened(s.r.IntN(6))
			s.forEver()
			if !slices.EqualFunc(s.m.events, ahead, event.Same) { // a record that is cut is never whole
				t.Errorf("%d events, of which %d were done", len(s.m.events), len(ahead))
			}
			if t.Failed() {
				t.Fatalf("seed %d", seed)
			}
		}
		for _, e := range s.m.events {
			kinds[e.Kind]++
		}
	}
	for k := api.Account; k <= api.Leave; k++ {
		if kinds[k] < 20 {
			t.Errorf("in the scripts there are but %d events of the kind %d", kinds[k], k)
		}
	}
	if cuts < 100 {
		t.Errorf("but %d cuts", cuts)
	}
}

// One script, cut at each raw write; each Open behind it cut at each raw write, too: what is there at last is what was done, whole, and the store goes on.
func TestP176EachCutTwice(t *testing.T) {
	for first := 0; ; first++ {
		most := 0
		for second := 0; second <= most; second++ {
			s := acts(t, 7)
			for len(s.m.events) < 12 {
				s.step()
			}
			s.power(first)
			for range 16 {
				s.step()
			}
			if !s.d.Dead() {
				return
			}
			done := s.m.events
			s.power(second)
			if !s.open() {
				most = second + 1 // Open needs one more, at least
			}
			s.reopened(-1)
			if !slices.EqualFunc(s.m.events, done, event.Same) {
				t.Errorf("%d events, of which %d were done", len(s.m.events), len(done))
			}
			for len(s.m.events) < len(done)+2 {
				s.step()
			}
			s.whole()
			s.forEver()
			if t.Failed() {
				t.Fatalf("the cuts %d, %d", first, second)
			}
		}
	}
}

// Over a file's end: the log's second file comes to be by a cut, and goes on.
func TestP176Files(t *testing.T) {
	files, _ := full(62)
	base := begun(t, files)
	files = base.m.files
	for cut := 0; ; cut++ {
		r := begun(t, files)
		r.power(cut)
		for i := range 6 {
			r.do(line([]string{"yank alice foo 1.0.0", "unyank alice foo 1.0.0"}[i%2]))
		}
		done := !r.d.Dead()
		r.power(-1)
		r.open()
		for range 70 {
			r.do(line("yank alice foo 1.0.0"))
			r.do(line("unyank alice foo 1.0.0"))
		}
		if t.Failed() {
			t.Fatalf("cut %d", cut)
		}
		if done {
			return
		}
	}
}

// As long as a store is not broken its pages are those that are meant, behind each event, and Open again is no raw write.
func TestP177(t *testing.T) {
	for seed := range uint64(20) {
		s := acts(t, 1000+seed)
		for range 60 {
			s.step()
			s.whole()
		}
		if t.Failed() {
			t.Fatalf("seed %d", seed)
		}
	}
}

// Those very bytes: whatever is done behind a publish, by whomever, and over any cuts and Opens, also where the store that goes on is not the one that published.
func TestP178(t *testing.T) {
	versions, seconds := 0, 0
	for seed := range uint64(10) {
		s := acts(t, 2000+seed)
		for range 300 {
			if s.r.IntN(12) == 0 {
				s.power(s.r.IntN(40))
			}
			s.step()
			if s.s.Broken() {
				s.reopened(s.r.IntN(3))
			}
			s.forEver()
		}
		s.reopened(0)
		s.forEver()
		if t.Failed() {
			t.Fatalf("seed %d", seed)
		}
		versions += len(s.held)
		for _, e := range s.m.events {
			if e.N > 1 {
				seconds++
			}
		}
	}
	if versions < 50 || seconds < 10 {
		t.Errorf("but %d versions, %d of them with bytes that are not the first ones of their sum", versions, seconds)
	}
}
