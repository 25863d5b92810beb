package path_test

import (
	"fmt"
	"math"
	"slices"
	"strings"
	"testing"

	"yankline/api"
	"yankline/path"
)

// named holds a call's answer against the name that is wanted, or against ErrPath and nothing, if none is.
func named(t *testing.T, call, got string, e api.Errno, want string) {
	t.Helper()
	wanted := api.OK
	if want == "" {
		wanted = api.ErrPath
	}
	if got != want || e != wanted {
		t.Errorf("%s = %.80q, %v, want %q, %v", call, got, e, want, wanted)
	}
}

func TestP111Examples(t *testing.T) {
	got, e := path.Log(1)
	named(t, "Log(1)", got, e, "log/00000001")
	got, e = path.Log(0)
	named(t, "Log(0)", got, e, "")
	got, e = path.Stage(12)
	named(t, "Stage(12)", got, e, "stage/12")
	got, e = path.Page("Foo")
	named(t, "Page(Foo)", got, e, "")
	got, e = path.Blob(api.Blob{Sum: 255, N: 2})
	named(t, "Blob of Sum 255 N 2", got, e, "blob/00000000000000ff-2")
}

func TestP111Log(t *testing.T) {
	for _, n := range numbers() {
		want := ""
		if 1 <= n && n <= 99999999 {
			want = fmt.Sprintf("log/%08d", n)
		}
		got, e := path.Log(n)
		named(t, fmt.Sprintf("Log(%d)", n), got, e, want)
	}
}

func TestP111Blob(t *testing.T) {
	for _, b := range blobs() {
		want := ""
		if b.N != 0 {
			want = fmt.Sprintf("blob/%016x-%d", b.Sum, b.N)
		}
		got, e := path.Blob(b)
		named(t, fmt.Sprintf("Blob(%+v)", b), got, e, want)
	}
}

func TestP111Page(t *testing.T) {
	for _, form := range forms() {
		got, e := path.Page(form)
		named(t, fmt.Sprintf("Page(%q)", form), got, e, "page/"+form)
	}
	for _, s := range unformed() {
		got, e := path.Page(s)
		named(t, fmt.Sprintf("Page(%.80q)", s), got, e, "")
	}
}

func TestP111Stage(t *testing.T) {
	for _, n := range numbers() {
		want := ""
		if 1 <= n && n <= math.MaxInt32 {
			want = fmt.Sprintf("stage/%d", n)
		}
		got, e := path.Stage(n)
		named(t, fmt.Sprintf("Stage(%d)", n), got, e, want)
	}
}

func TestP112Examples(t *testing.T) {
	want := api.Path{Kind: api.BlobPath, Blob: api.Blob{Sum: 255, N: 2}}
	if p, e := path.Read("blob/00000000000000ff-2"); p != want || e != api.OK {
		t.Errorf("Read(blob/00000000000000ff-2) = %+v, %v", p, e)
	}
	for _, s := range []string{"log/1", "log/00000000", "stage/01", "page/a--b"} {
		refused(t, s)
	}
	if l := path.Under(api.LogPath, "a", "log/00000002", "page/a"); !slices.Equal(l, []string{"log/00000002"}) {
		t.Errorf("Under(LogPath, a, log/00000002, page/a) = %q", l)
	}
}

func TestP112Read(t *testing.T) {
	for _, c := range []struct {
		s    string
		want api.Path
	}{
		{"log/00000001", api.Path{Kind: api.LogPath, N: 1}},
		{"log/00000080", api.Path{Kind: api.LogPath, N: 80}},
		{"log/99999999", api.Path{Kind: api.LogPath, N: 99999999}},
		{"blob/0000000000000000-1", api.Path{Kind: api.BlobPath, Blob: api.Blob{N: 1}}},
		{"blob/ffffffffffffffff-4294967295", api.Path{Kind: api.BlobPath, Blob: api.Blob{Sum: math.MaxUint64, N: math.MaxUint32}}},
		{"page/a", api.Path{Kind: api.PagePath, Name: "a"}},
		{"page/foo-bar", api.Path{Kind: api.PagePath, Name: "foo-bar"}},
		{"page/00000001", api.Path{Kind: api.PagePath, Name: "00000001"}},
		{"page/" + strings.Repeat("a", 64), api.Path{Kind: api.PagePath, Name: strings.Repeat("a", 64)}},
		{"stage/1", api.Path{Kind: api.StagePath, N: 1}},
		{"stage/10", api.Path{Kind: api.StagePath, N: 10}},
		{"stage/2147483647", api.Path{Kind: api.StagePath, N: math.MaxInt32}},
	} {
		if p, e := path.Read(c.s); p != c.want || e != api.OK {
			t.Errorf("Read(%q) = %+v, %v, want %+v", c.s, p, e, c.want)
		}
	}
}

func TestP112ReadNone(t *testing.T) {
	for _, s := range nones() {
		refused(t, s)
	}
}

// Names of all kinds with each byte there can be in place of each, behind each and with one less.
func TestP112ReadEachByte(t *testing.T) {
	names := 0
	for _, s := range []string{
		"log/00000001", "log/10000000", "log/99999999", "blob/00000000000000ff-2", "blob/0123456789abcdef-4294967295", "blob/ffffffffffffffff-10",
		"page/a", "page/foo-bar", "page/" + strings.Repeat("z", 64), "stage/1", "stage/10", "stage/2147483647", "stage/999999999",
	} {
		for at := range len(s) + 1 {
			for c := range 256 {
				one := string([]byte{byte(c)})
				if read(t, s[:at]+one+s[at:]) {
					names++
				}
				if at < len(s) && read(t, s[:at]+one+s[at+1:]) {
					names++
				}
			}
			read(t, s[:at])
			read(t, s[at:])
			if at < len(s) {
				read(t, s[:at]+s[at+1:])
			}
		}
	}
	if names < 1000 {
		t.Errorf("but %d names among them", names)
	}
}

// All texts of up to five telling parts.
func TestP112ReadParts(t *testing.T) {
	parts := []string{"log", "blob", "page", "stage", "/", "-", "0", "1", "9", "0000000", "0000000000000000", "ef", "F"}
	l, names := []string{""}, 0
	for from, n := 0, 0; n < 5; n++ {
		to := len(l)
		for _, s := range l[from:to] {
			for _, part := range parts {
				if read(t, s+part) {
					names++
				}
				l = append(l, s+part)
			}
		}
		from = to
	}
	if names < 100 {
		t.Errorf("but %d names among %d texts", names, len(l))
	}
}

func TestP112Under(t *testing.T) {
	l := []string{
		"stage/2", "log/00000002", "", "page/b", "log/00000001", "log/1", "blob/00000000000000ff-2", "page/a", "stage/1", "page/a--b", "log/00000002",
		"blob/00000000000000ff-1", "page/A", "stage/01", "blob/00000000000000ff-1", "page/b", "stage/2", "log/00000000", "blob/0-1", "a",
	}
	for _, c := range []struct {
		k    api.PathKind
		want []string
	}{
		{api.LogPath, []string{"log/00000002", "log/00000001", "log/00000002"}},
		{api.BlobPath, []string{"blob/00000000000000ff-2", "blob/00000000000000ff-1", "blob/00000000000000ff-1"}},
		{api.PagePath, []string{"page/b", "page/a", "page/b"}},
		{api.StagePath, []string{"stage/2", "stage/1", "stage/2"}},
		{api.NoPath, nil},
		{api.StagePath + 1, nil},
		{255, nil},
	} {
		if got := path.Under(c.k, l...); !slices.Equal(got, c.want) {
			t.Errorf("Under(%d, ..) = %q, want %q", c.k, got, c.want)
		}
		if got := path.Under(c.k); len(got) != 0 {
			t.Errorf("Under(%d) of none = %q", c.k, got)
		}
		if got := path.Under(c.k, nones()...); len(got) != 0 {
			t.Errorf("Under(%d) of no names = %.80q", c.k, got)
		}
	}
}

// Of many texts those of each kind, as the model tells them.
func TestP112UnderModel(t *testing.T) {
	l := nones()
	for i, p := range paths() {
		s, _ := written(p)
		l = slices.Insert(l, i*7%len(l), s)
	}
	of := map[api.PathKind][]string{}
	for _, s := range l {
		if p, is := model(s); is {
			of[p.Kind] = append(of[p.Kind], s)
		}
	}
	for _, k := range append(slices.Clone(kinds), api.NoPath, api.StagePath+1, 128, 255) {
		want := of[k]
		if got := path.Under(k, l...); !slices.Equal(got, want) {
			t.Errorf("Under(%d, ..) of %d texts: %d, want %d", k, len(l), len(got), len(want))
		}
		if slices.Contains(kinds, k) == (len(want) == 0) {
			t.Errorf("of the kind %d there are %d", k, len(want))
		}
	}
}
