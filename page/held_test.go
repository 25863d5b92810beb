package page_test

import (
	"errors"
	"fmt"
	"math"
	"slices"
	"strings"
	"testing"

	"yankline/api"
	"yankline/fold"
	"yankline/page"
)

// No state, and one that no call made, is ErrNil, whatever is asked for; All tells nothing of it.
func TestP01Nil(t *testing.T) {
	for _, s := range []*fold.State{nil, {}, new(fold.State)} {
		for _, title := range asked() {
			p, err := page.Of(s, title)
			faulty(t, "Of", err, api.ErrNil, "", -1)
			if !same(p, api.Page{}) || errors.Is(err, api.ErrNone) {
				t.Errorf("Of no state = %s, %v", told(p), err)
			}
		}
		for title, text := range page.All(s) {
			t.Errorf("All of no state tells %q, %q", title, text)
		}
	}
	for title, text := range page.All(fold.New()) {
		t.Errorf("All of nothing tells %q, %q", title, text)
	}
}

// roomy is p with room behind each of its lists.
func roomy(p api.Page) api.Page {
	p.Holders = append(append([]string{}, p.Holders...), "zz", "spare")[:len(p.Holders)]
	p.Releases = append(append([]api.Release{}, p.Releases...), api.Release{Version: "spare"}, api.Release{})[:len(p.Releases)]
	for i, r := range p.Releases {
		p.Releases[i].Needs = append(append([]api.Need{}, r.Needs...), api.Need{Name: "spare"}, api.Need{Name: "zz"})[:len(r.Needs)]
	}
	return p
}

// room is all that p has, with the room behind its lists.
func room(p api.Page) string {
	text := told(p) + fmt.Sprint(p.Holders[:cap(p.Holders)])
	for _, r := range p.Releases[:cap(p.Releases)] {
		text += fmt.Sprint(r, r.Needs[:cap(r.Needs)])
	}
	return text
}

// What is handed in stays as it was, its spare room too, of pages that may not be as well.
func TestP01HandedIn(t *testing.T) {
	for _, p := range append(ones(), nones()...) {
		a, b := roomy(p), roomy(full())
		was, other := room(a), room(b)
		page.Text(a)
		page.Same(a, b)
		page.Same(b, a)
		page.Same(a, a)
		if room(a) != was || room(b) != other {
			t.Errorf("a call changed %.300s to %.300s", was, room(a))
		}
	}
	s := of(t, script())
	was := s.Copy()
	for _, title := range asked() {
		page.Of(s, title)
	}
	for range page.All(s) {
	}
	if !fold.Same(s, was) {
		t.Error("a call changed the state")
	}
}

// overwrite writes over all lists of p, their spare room too.
func overwrite(p api.Page) {
	holders, releases := p.Holders[:cap(p.Holders)], p.Releases[:cap(p.Releases)]
	for i := range holders {
		holders[i] = "written over"
	}
	for i := range releases {
		needs := releases[i].Needs[:cap(releases[i].Needs)]
		for j := range needs {
			needs[j] = api.Need{Name: "written over", Span: "!"}
		}
		releases[i] = api.Release{Version: "written over"}
	}
}

// An answer may be written over, its spare room too: the state and all other answers stay.
func TestP01NewMemory(t *testing.T) {
	s := of(t, script())
	was := s.Copy()
	for _, title := range []string{"foo", "bar-baz", "a"} {
		want, _ := script().page(title)
		text := textOf(want)
		calls := []func() api.Page{
			func() api.Page { p, _ := page.Of(s, title); return p },
			func() api.Page { p, _, _ := page.Read(text); return p },
		}
		for _, first := range calls {
			for _, second := range calls {
				one, other := first(), second()
				overwrite(one)
				if again := first(); !same(other, want) || !same(again, want) {
					t.Errorf("two answers for %s share memory", title)
				}
			}
		}
	}
	if !fold.Same(s, was) {
		t.Error("an answer shares memory with the state")
	}
}

// No two lists of one answer share any memory: what is added behind one does not stand in another one.
func TestP01OwnLists(t *testing.T) {
	s := of(t, script())
	read := func() api.Page { p, _, _ := page.Read(textOf(full())); return p }
	told := func() api.Page { p, _ := page.Of(s, "foo"); return p }
	for _, call := range []func() api.Page{read, told} {
		p := call()
		_ = append(p.Holders, "added")
		_ = append(p.Releases, api.Release{Version: "added"})
		for i := range p.Releases {
			_ = append(p.Releases[i].Needs, api.Need{Name: "added"}, api.Need{Name: "added"})
		}
		if !same(p, call()) {
			t.Error("two lists of a page share memory")
		}
		for i := range p.Releases {
			one := call()
			overwrite(api.Page{Releases: one.Releases[i : i+1 : i+1]})
			for j, r := range one.Releases {
				if want := p.Releases[j]; j != i && fmt.Sprint(r) != fmt.Sprint(want) {
					t.Errorf("what is written over the release %d stands in %d", i, j)
				}
			}
		}
	}
}

// What was handed in is not kept.
func TestP01NotKept(t *testing.T) {
	p := roomy(full())
	text, _ := page.Text(p)
	want := strings.Clone(text)
	overwrite(p)
	if again, _ := page.Text(full()); text != want || again != want {
		t.Error("a text is changed by what is written over the page")
	}
}

// Faults are new ones, too.
func TestP01NewFaults(t *testing.T) {
	s := fold.New()
	calls := []func() error{
		func() error { _, err := page.Of(nil, "foo"); return err },
		func() error { _, err := page.Of(s, "foo"); return err },
		func() error { _, _, err := page.Read("x"); return err },
		func() error { _, _, err := page.Read(foo + "x"); return err },
		func() error { _, _, err := page.Read("page a 1\n"); return err },
		func() error { _, _, err := page.Read(strings.Repeat("x", api.MaxFile+1)); return err },
	}
	for i, call := range calls {
		want := call().Error()
		*call().(*api.Fault) = api.Fault{Code: api.ErrDead}
		if got := call().Error(); got != want {
			t.Errorf("call %d: %s, want %s", i, got, want)
		}
	}
}

// all is what a walk tells.
func all(s *fold.State) []string {
	var l []string
	for title, text := range page.All(s) {
		l = append(l, title, text)
	}
	return l
}

// A walk may be left early, gone over again, and within another one.
func TestP01Walk(t *testing.T) {
	s := of(t, script())
	want := all(s)
	walk := page.All(s)
	for n := range len(want)/2 + 1 {
		var got []string
		for title, text := range walk {
			if len(got)/2 == n {
				break
			}
			got = append(got, title, text)
		}
		if !slices.Equal(got, want[:2*n]) {
			t.Errorf("a walk that is left behind %d tells %q", n, got)
		}
	}
	count := 0
	for a := range walk {
		for b := range walk {
			if want[count/4*2] != a || want[count%4*2] != b {
				t.Errorf("two walks: %s, %s at %d", a, b, count)
			}
			count++
		}
	}
	if len(want) != 8 || count != 16 || !slices.Equal(all(s), want) {
		t.Errorf("%d pages, %d pairs", len(want)/2, count)
	}
}

// A walk tells what there is when it begins: nothing of what is done ahead of its end, all that is done ahead of its beginning.
func TestP01WalkChanged(t *testing.T) {
	s := of(t, script())
	walk := page.All(s)
	more := events("publish alice aa 1.0.0 0 0000000000000000 1 0", "yank bob zoo 1.0.0", "own bob zoo alice", "publish alice zzz 1.0.0 0 0000000000000000 1 0", "publish bob zoo 0.9.0 0 0000000000000000 1 0", "disown bob bar-baz bob", "deprecate bob a 0.0.0 00", "unyank bob zoo 1.0.0")
	done := func(e api.Event) {
		if err := s.Apply(e); err != nil {
			t.Fatalf("Apply(%v): %v", e, err)
		}
	}
	done(more[0])
	done(more[1])
	want, at := all(s), 0
	for title, text := range walk {
		if at+1 >= len(want) || title != want[at] || text != want[at+1] {
			t.Errorf("a walk tells %q, %q at %d, want %q", title, text, at, want)
		}
		at += 2
		if n := at/2 + 1; n < len(more) {
			done(more[n])
		}
	}
	if at != len(want) || at != 10 {
		t.Errorf("a walk tells %d pages, want %d", at/2, len(want)/2)
	}
	if now := all(s); slices.Equal(now, want) || !slices.Contains(now, "zzz") {
		t.Errorf("another walk tells %q", now)
	}
}

// A call answers the same whatever was called before.
func TestP01Again(t *testing.T) {
	for range 2 {
		for _, p := range nones()[:80] {
			page.Text(p)
			page.Read(textOf(p))
		}
		read(t, foo)
		read(t, foo+foo)
		read(t, textOf(full()))
		if text, no := page.Text(full()); text != textOf(full()) || no != api.OK {
			t.Errorf("Text of the full page = %q, %v", text, no)
		}
	}
}

// Lists of any length end: a full log of one package, and pages of lists that may not be.
func TestP01Ends(t *testing.T) {
	m := events("account alice 0000000000000001")
	for i := 1; i < api.MaxEvents; i++ {
		m = append(m, api.Event{Kind: api.Publish, Who: "alice", Name: "foo", Version: fmt.Sprintf("%d.0.0", i*7919%api.MaxEvents), N: 1})
	}
	s := of(t, m)
	p, err := page.Of(s, "foo")
	if err != nil || len(p.Releases) != api.MaxEvents-1 || p.At != api.MaxEvents {
		t.Fatalf("Of a full log's package: %d releases, %v", len(p.Releases), err)
	}
	back(t, p)
	p.Releases = append(p.Releases, p.Releases...)
	if _, no := page.Text(p); no != api.ErrPage {
		t.Errorf("Text of releases that do not rise: %v", no)
	}
	huge := api.Page{Name: "a", At: math.MaxInt, Holders: make([]string, 1<<22), Releases: make([]api.Release, 1<<20)}
	if _, no := page.Text(huge); no != api.ErrPage || !page.Same(huge, huge) {
		t.Errorf("Text of a page of nothing: %v", no)
	}
	if _, no := page.Text(api.Page{Name: strings.Repeat("a", 1<<26), At: 1}); no != api.ErrPage {
		t.Errorf("Text of a page of a long name: %v", no)
	}
}
