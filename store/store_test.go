package store_test

import (
	"fmt"
	"math"
	"slices"
	"strings"
	"testing"

	"yankline/api"
	"yankline/event"
	"yankline/fold"
	"yankline/rule"
	"yankline/store"
)

// Events are those from a place on, at most so many, at all bounds.
func TestP174Events(t *testing.T) {
	r := busy(t)
	all := r.m.events
	edges := []int{math.MinInt, math.MinInt + 1, -1 << 32, -2, -1, 0, 1, 2, 3, len(all) - 1, len(all), len(all) + 1, 1 << 32, math.MaxInt - 1, math.MaxInt}
	for _, from := range edges {
		for _, most := range edges {
			want := all[min(max(from, 0), len(all)):]
			want = want[:min(max(most, 0), len(want))]
			if got := r.s.Events(from, most); !slices.EqualFunc(got, want, event.Same) {
				t.Errorf("Events(%d, %d) = %v, want %v", from, most, got, want)
			}
		}
	}
	for i, e := range all {
		if got := r.s.Events(i, 1); len(got) != 1 || !event.Same(got[0], e) {
			t.Errorf("Events(%d, 1) = %v, want %v", i, got, e)
		}
	}
}

// Head, State, Events and Broken go on when the disk is dead, and when its files are gone.
func TestP174GoOn(t *testing.T) {
	r := busy(t)
	r.power(0)
	r.do(line("account carol 0000000000000003"))
	r.tells("a dead disk")
	r.power(-1)
	for _, name := range r.d.Names() {
		fine(t, "Remove on the disk", r.d.Remove(name))
		delete(r.m.files, name)
	}
	r.tells("an empty disk")
}

// The state is a copy of what the events make by the rules, behind each of them: it does not go on with the store, nor the store with it.
func TestP174State(t *testing.T) {
	all := busy(t).m.events
	r := begun(t, nil)
	for i, e := range all {
		ahead := r.s.State()
		if e.Kind == api.Publish {
			r.publish(e.Who, e.Name, e.Version, e.Needs, "")
		} else {
			r.do(e)
		}
		want, _, err := rule.All(r.m.events[:i]...)
		fine(t, "All", err)
		if !fold.Same(ahead, want) || r.s.State().Head() != i+1 {
			t.Errorf("State behind %d events is another one", i)
		}
	}
	one := r.s.State()
	fine(t, "Do to a copy", rule.Do(one, line("account carol 0000000000000003")))
	if fold.Same(one, r.s.State()) || r.s.Head() != len(all) {
		t.Error("what is done to a copy is done to the store")
	}
	r.do(line("account carol 0000000000000004"))
}

func TestP175Examples(t *testing.T) {
	r := begun(t, nil)
	r.do(line("account alice 0000000000000001"))
	r.publish("alice", "foo", "1.0.0", nil, "abc")
	text, err := r.s.Get("foo", "1.0.0")
	if text != "abc" || err != nil {
		t.Errorf("Get(foo, 1.0.0) = %q, %v", text, err)
	}
	_, err = r.s.Get("bar", "1.0.0")
	faulty(t, "Get(bar, 1.0.0)", err, of(api.ErrNone, "bar"))
	_, err = r.s.Get("foo", "2.0.0")
	faulty(t, "Get(foo, 2.0.0)", err, of(api.ErrNone, "foo 2.0.0"))
}

// Names and versions are taken as they stand: of all other texts there is nothing, and the fault has them whole.
func TestP175None(t *testing.T) {
	r := busy(t)
	for _, name := range []string{"", "Foo", "fo", "f-oo", "foo ", "foo/", "bar_baz", "alice", "dev", "page/foo", "\x00", strings.Repeat("x", 1<<16)} {
		for _, version := range []string{"", "1.9.0", "x"} {
			r.gets("", name, version)
			text, err := r.s.Get(name, version)
			faulty(t, "Get of no package", err, of(api.ErrNone, name))
			if text != "" {
				t.Errorf("Get(%.40q, %s) = %q", name, version, text)
			}
		}
		_, err := r.s.Page(name)
		faulty(t, "Page of no package", err, of(api.ErrNone, name))
	}
	for _, version := range []string{"", "1.9", "01.9.0", "1.9.0 ", "=1.9.0", "1.9.1", "0.1.0", "1.9.0-0", "foo", strings.Repeat("x", 1<<16)} {
		text, err := r.s.Get("foo", version)
		faulty(t, "Get of no version", err, of(api.ErrNone, "foo "+version))
		if text != "" {
			t.Errorf("Get(foo, %.40q) = %q", version, text)
		}
	}
}

// What a hand has done to the files behind Open: Get and Page tell what the disk tells.
func TestP175Disk(t *testing.T) {
	r := busy(t)
	for _, name := range r.d.Names() {
		fine(t, "Put on the disk", r.d.Put(name, "by hand"))
		r.m.files[name] = "by hand"
		r.tells("with other bytes in " + name)
		fine(t, "Remove on the disk", r.d.Remove(name))
		delete(r.m.files, name)
		r.tells("without " + name)
	}
	r.power(0)
	r.d.Put("x", "")
	r.m.dead = true
	r.tells("a dead disk")
	_, err := r.s.Get("foo", "1.9.0")
	faulty(t, "Get of a dead disk", err, of(api.ErrDead, blobFile(0, 2)))
	_, err = r.s.Page("foo")
	faulty(t, "Page of a dead disk", err, of(api.ErrDead, "page/foo"))
	_, err = r.s.Get("foo", "0.0.0")
	faulty(t, "Get of no version", err, of(api.ErrNone, "foo 0.0.0"))
}

// Bytes of each length are told as they were.
func TestP175Lengths(t *testing.T) {
	r := begun(t, nil)
	r.do(line("account alice 0000000000000001"))
	for i, n := range []int{0, 1, 31, 32, 33, 64, 1000, api.MaxBytes - 1, api.MaxBytes} {
		bytes := []byte(strings.Repeat("\xff\x00\n", n/3+1)[:n])
		version := fmt.Sprintf("0.0.%d", i)
		fine(t, "Publish", r.s.Publish("alice", "foo", version, nil, string(bytes)))
		s, err := store.Open(r.d)
		fine(t, "Open", err)
		for _, one := range []*store.Store{r.s, s} {
			if got, err := one.Get("foo", version); got != string(bytes) || err != nil {
				t.Errorf("Get of %d bytes: %d, %v", n, len(got), err)
			}
		}
	}
}
