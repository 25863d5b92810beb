package path_test

import (
	"slices"
	"testing"

	"yankline/api"
	"yankline/disk"
	"yankline/log"
	"yankline/path"
)

func TestP113ReadOfWritten(t *testing.T) {
	for _, want := range paths() {
		s, e := written(want)
		if s == "" || e != api.OK {
			t.Errorf("%+v has no name: %v", want, e)
		}
		if got, e := path.Read(s); got != want || e != api.OK {
			t.Errorf("Read(%q) = %+v, %v, want %+v", s, got, e, want)
		}
	}
}

func TestP113OneKind(t *testing.T) {
	of := map[string]api.Path{}
	for _, p := range paths() {
		s, _ := written(p)
		if other, is := of[s]; is && other != p {
			t.Errorf("%q is the name of %+v and of %+v", s, other, p)
		}
		of[s] = p
		for k := range 256 {
			if l := path.Under(api.PathKind(k), s); (len(l) == 1) != (api.PathKind(k) == p.Kind) {
				t.Errorf("Under(%d, %q) = %q, of a name of the kind %d", k, s, l, p.Kind)
			}
		}
	}
}

func TestP113LogsOrder(t *testing.T) {
	var l []int
	for _, n := range numbers() {
		if 1 <= n && n <= 99999999 {
			l = append(l, n)
		}
	}
	for n := 1; n <= 99999999; n += 99991 {
		l = append(l, n)
	}
	slices.Sort(l)
	l = slices.Compact(l)
	for i, n := range l[1:] {
		a, e := path.Log(l[i])
		b, f := path.Log(n)
		if e != api.OK || f != api.OK || a >= b {
			t.Errorf("Log(%d) = %q, %v does not stand below Log(%d) = %q, %v", l[i], a, e, n, b, f)
		}
	}
}

// The files that a log makes are those whose names these are, in their order.
func TestP113LogsFiles(t *testing.T) {
	d := disk.New(-1)
	l, err := log.Open(d)
	if err != nil {
		t.Fatal(err)
	}
	for range 12*api.MaxSegment + 1 {
		if err := l.Append("x"); err != nil {
			t.Fatal(err)
		}
	}
	if err := d.Put("page/x", "x"); err != nil {
		t.Fatal(err)
	}
	var want []string
	for i := range 13 {
		s, _ := path.Log(i + 1)
		want = append(want, s)
	}
	if got := path.Under(api.LogPath, d.Names()...); !slices.Equal(got, want) {
		t.Errorf("the files of a log: %q, want %q", got, want)
	}
}

// Each name may be a file's on a disk.
func TestP113OnDisk(t *testing.T) {
	for _, p := range paths() {
		s, _ := written(p)
		if len(s) > api.MaxPath {
			t.Errorf("%q has %d bytes", s, len(s))
		}
	}
}

// What is handed in stays as it was, its spare room too.
func TestP01HandedIn(t *testing.T) {
	for _, l := range [][]string{
		{"a", "log/00000002", "log/00000001", "page/a", "spare"},
		{"page/a", "stage/1", "blob/00000000000000ff-2", "log/00000001", "log/00000002"},
		{"", "log/1", "x", "log/00000000", "spare"},
	} {
		for k := range 256 {
			room := slices.Clone(l)
			path.Under(api.PathKind(k), room[:4]...)
			if !slices.Equal(room, l) {
				t.Errorf("Under(%d, ..) changed its texts %q: %q", k, l, room)
			}
		}
	}
}

// An answer may be written over, its spare room too: neither what was handed in nor another answer changes.
func TestP01NewMemory(t *testing.T) {
	for _, l := range [][]string{
		{"log/00000001"}, {"log/00000001", "log/00000002"}, {"a", "log/00000001"}, {"log/00000001", "a"}, {"log/00000001", "a", "b", "c", "log/00000002", "page/a"}, {"a"}, {},
	} {
		handed := slices.Clone(l)
		first := path.Under(api.LogPath, handed...)
		second := path.Under(api.LogPath, handed...)
		want := slices.Clone(second)
		first = first[:cap(first)]
		for i := range first {
			first[i] = "written over"
		}
		_ = append(first, "more")
		if third := path.Under(api.LogPath, handed...); !slices.Equal(handed, l) || !slices.Equal(second, want) || !slices.Equal(third, want) {
			t.Errorf("an answer of Under(LogPath, %q) shares memory", l)
		}
	}
}

// What is handed in is not kept: it may be written over.
func TestP01NotKept(t *testing.T) {
	l := []string{"log/00000001", "a", "log/00000002"}
	got := path.Under(api.LogPath, l...)
	for i := range l {
		l[i] = "written over"
	}
	if !slices.Equal(got, []string{"log/00000001", "log/00000002"}) {
		t.Errorf("an answer of Under changed to %q", got)
	}
}

// A call answers the same whatever was called before.
func TestP01Again(t *testing.T) {
	none := nones()[:40]
	for range 2 {
		for _, p := range paths() {
			s, e := written(p)
			for _, none := range none {
				path.Read(none)
				path.Page(none)
			}
			path.Log(-1)
			path.Stage(0)
			path.Blob(api.Blob{})
			path.Under(p.Kind, "log/00000007", "page/x")
			again, f := written(p)
			if again != s || f != e {
				t.Errorf("the name of %+v: %q, %v, and %q, %v ahead", p, again, f, s, e)
			}
			if got, e := path.Read(s); got != p || e != api.OK {
				t.Errorf("Read(%q) = %+v, %v", s, got, e)
			}
		}
	}
}
