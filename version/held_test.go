package version_test

import (
	"slices"
	"testing"

	"yankline/api"
	"yankline/version"
)

// What is handed in stays as it was, its spare room too.
func TestP01HandedIn(t *testing.T) {
	for _, l := range [][]string{{"2.0.0", "1.0.0", "1.0.0", "1.0.0-a", "spare"}, {"1.0.0", "1.0.0", "1.0.0", "0.0.1", "spare"}, {"2.0.0", "1.0.0", "none", "1.0.0", "spare"}} {
		room := slices.Clone(l)
		version.Sort(room[:4]...)
		if !slices.Equal(room, l) {
			t.Errorf("Sort changed its texts %q: %q", l, room)
		}
	}
	for _, l := range [][]string{{"b", "a", "0", "spare"}, {"b", "01", "", "spare"}, {"spare", "spare", "spare", "spare"}} {
		for n := range len(l) {
			room := slices.Clone(l)
			v := api.Version{Major: 1, Minor: 2, Patch: 3, Pre: room[:n]}
			w := api.Version{Major: 1, Minor: 2, Patch: 3, Pre: []string{"b", "a", "0"}}
			version.May(v)
			version.Text(v)
			version.Release(v)
			version.Cmp(v, w)
			version.Cmp(w, v)
			version.Least(v)
			for part := range 3 {
				version.Next(v, part)
			}
			if !slices.Equal(room, l) || v.Major != 1 || v.Minor != 2 || v.Patch != 3 {
				t.Errorf("a call changed the version with %q: %v, %q", l[:n], v, room)
			}
		}
	}
}

// overwrite writes over a list, its spare room too.
func overwrite(l []string) {
	l = l[:cap(l)]
	for i := range l {
		l[i] = "written over"
	}
}

// An answer may be written over, its spare room too: neither what was handed in nor another answer changes.
func TestP01NewMemory(t *testing.T) {
	for _, l := range [][]string{{"1.0.0"}, {"1.0.0", "2.0.0"}, {"2.0.0", "1.0.0", "1.0.0-a", "1.0.0"}, {"0.0.1", "0.0.2", "0.0.3", "0.0.4"}} {
		handed := slices.Clone(l)
		first, _ := version.Sort(handed...)
		second, _ := version.Sort(handed...)
		want := slices.Clone(second)
		overwrite(first)
		third, e := version.Sort(handed...)
		if !slices.Equal(handed, l) || !slices.Equal(second, want) || !slices.Equal(third, want) || e != api.OK {
			t.Errorf("an answer of Sort(%q) shares memory", l)
		}
	}
	for _, s := range texts() {
		want, _ := model(s)
		v := read(t, s)
		overwrite(read(t, s).Pre)
		least, _ := version.Least(v)
		other, _ := version.Least(v)
		overwrite(other.Pre)
		next, e := version.Next(v, 0)
		if e == api.OK && next.Pre != nil {
			t.Errorf("Next(%s, 0) has identifiers", s)
		}
		if !slices.Equal(least.Pre, []string{"0"}) || !same(v, want) || !same(read(t, s), want) {
			t.Errorf("an answer for %s shares memory", s)
		}
		overwrite(least.Pre)
		if again, _ := version.Least(v); !slices.Equal(again.Pre, []string{"0"}) || !same(v, want) {
			t.Errorf("an answer of Least(%s) shares memory", s)
		}
	}
}

// A call answers the same whatever was called before.
func TestP01Again(t *testing.T) {
	for range 2 {
		for _, s := range append(texts(), nones()...) {
			v, _ := version.Read(s)
			version.Text(v)
			version.Is(s)
			version.Order(s, "1.0.0")
			version.Sort(s, "2.0.0", "1.0.0")
			version.Least(v)
			version.Next(v, 1)
		}
		taken(t, "1.2.3-rc.1", api.Version{Major: 1, Minor: 2, Patch: 3, Pre: []string{"rc", "1"}})
		ordered(t, "1.0.0-2", "1.0.0-10", -1)
		next(t, "1.2.3-a", 1, "1.3.0")
		if l, e := version.Sort("1.0.0", "1.0.0-a", "1.0.0"); !slices.Equal(l, []string{"1.0.0-a", "1.0.0"}) || e != api.OK {
			t.Errorf("Sort = %q, %v", l, e)
		}
	}
}
