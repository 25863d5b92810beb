package store_test

import (
	"fmt"
	"maps"
	"slices"
	"strings"
	"testing"

	"yankline/api"
	"yankline/disk"
	"yankline/store"
)

// busy is a store behind calls of all kinds: packages of one and of more versions, bytes that are two versions', bytes of one sum.
func busy(t *testing.T) *run {
	t.Helper()
	r := begun(t, nil)
	for _, e := range lines("account alice 0000000000000001", "account bob 0000000000000002", "team bob dev") {
		r.do(e)
	}
	r.publish("alice", "foo", "1.10.0", nil, "abc")
	r.publish("bob", "bar-baz", "0.1.0", []api.Need{{Name: "foo", Span: ">=1.0.0 <2.0.0-0"}}, alike(0))
	r.publish("alice", "foo", "1.9.0", []api.Need{{Name: "a", Span: "*"}, {Name: "zoo", Span: "!"}}, alike(1))
	for _, e := range lines("own alice foo dev", "yank bob foo 1.9.0", "join bob dev alice", "deprecate bob bar-baz 0.1.0 6f6b") {
		r.do(e)
	}
	r.publish("bob", "foo", "2.0.0", nil, "abc")
	r.publish("alice", "zoo", "1.0.0", nil, strings.Repeat("bytes", 30))
	r.publish("alice", "a", "0.0.0", nil, "")
	for _, e := range lines("leave alice dev alice", "disown bob foo alice", "unyank bob foo 1.9.0", "yank bob foo 2.0.0") {
		r.do(e)
	}
	if t.Failed() || r.m.files[blobFile(0, 2)] != alike(1) {
		t.Fatal("the script is not done as it should be")
	}
	return r
}

// foreign are files that are nobody's, though some look so.
func foreign() map[string]string {
	files := map[string]string{}
	for _, name := range []string{
		"x", "\x00", "log", "log/1", "log/000000001", "log/0000000x", "Log/00000002", "log/00000002/", "logs/00000002",
		"stage", "stage/", "stage/0", "stage/01", "stage/2147483648", "stage/x", "Stage/1", "stage/1/",
		"blob/", "blob/abc-1", "blob/000000000000000A-1", "blob/0000000000000001-0", "blob/0000000000000001-01", "blob/0000000000000001-4294967296", "blob/0000000000000001-1/",
		"page/", "page/Foo", "page/foo_bar", "page/a--b", "page/-a", "page/a-", "page/a/b", "page/" + strings.Repeat("a", 65), "pages/foo",
	} {
		files[name] = "of " + name
	}
	return files
}

// spoilt are the busy store's files with foreign ones among them, and with all that Open mends.
func spoilt(t *testing.T) map[string]string {
	files := maps.Clone(busy(t).m.files)
	maps.Copy(files, foreign())
	files["log/00000001"] += record("abc")[:14]
	for _, name := range []string{"log/00000002", "log/00000003", "log/00000010", "log/99999999", "stage/1", "stage/2", "stage/10", "stage/2147483647"} {
		files[name] = "of " + name
	}
	for _, n := range []uint32{3, 9, 10, 11, 4294967295} {
		files[blobFile(0, n)] = alike(int(n % 16))
	}
	files[blobFile(sumOf("xyz"), 1)] = "xyz"
	files[blobFile(sumOf("abc"), 2)] = "abc"
	files[blobFile(1<<63, 1)] = ""
	for _, name := range []string{"page/0", "page/foobar", "page/zzz", "page/" + strings.Repeat("a", 64)} {
		files[name] = files["page/foo"]
	}
	files["page/foo"] = strings.Replace(files["page/foo"], "yanked", "-", 1)
	files["page/a"] = ""
	files["page/zoo"] += "\n"
	delete(files, "page/bar-baz")
	return files
}

func TestP171Examples(t *testing.T) {
	d := disk.New(-1)
	s, err := store.Open(d)
	fine(t, "Open", err)
	if s.Head() != 0 || d.Writes() != 0 || s.Broken() {
		t.Errorf("Open of an empty disk: %d events, %d raw writes", s.Head(), d.Writes())
	}
	fine(t, "Do", s.Do(api.Event{Kind: api.Account, Who: "alice", Sum: 1}))
	fine(t, "Publish", s.Publish("alice", "foo", "1.0.0", nil, "abc"))
	want := "page foo 2\nholders alice\nrelease 1.0.0 alice 2 e71fa2190541574b 1 3 - -\n"
	if text, err := s.Page("foo"); text != want || err != nil {
		t.Errorf("Page(foo) = %q, %v", text, err)
	}
	for name, bytes := range map[string]string{"page/foo": "other bytes", "page/zzz": want, "stage/7": "x"} {
		fine(t, "Put on the disk", d.Put(name, bytes))
	}
	s, err = store.Open(d)
	fine(t, "Open", err)
	if names := d.Names(); !slices.Equal(names, []string{"blob/e71fa2190541574b-1", "log/00000001", "page/foo"}) {
		t.Errorf("the files are %q", names)
	}
	if text, err := s.Page("foo"); text != want || err != nil {
		t.Errorf("Page(foo) = %q, %v", text, err)
	}
}

func TestP171NoDisk(t *testing.T) {
	for _, d := range []*disk.Disk{nil, {}, new(disk.Disk)} {
		s, err := store.Open(d)
		faulty(t, "Open of no disk", err, no(api.ErrNil))
		if s != nil {
			t.Error("Open of no disk is a store")
		}
	}
}

func TestP171Dead(t *testing.T) {
	for _, files := range []map[string]string{{}, busy(t).m.files, spoilt(t), {"log/00000001": record("abc")}} {
		d := laid(t, 0, files)
		faulty(t, "Put on the disk", d.Put("y", ""), of(api.ErrDead, "y"))
		s, err := store.Open(d)
		faulty(t, "Open of a dead disk", err, of(api.ErrDead, "log/00000001"))
		if s != nil {
			t.Error("Open of a dead disk is a store")
		}
		lies(t, "Open of a dead disk", d, files)
	}
}

// All that a cut, or a hand, has left is mended, and what is nobody's stays.
func TestP171Mends(t *testing.T) {
	r := begun(t, spoilt(t))
	want := maps.Clone(busy(t).m.files)
	maps.Copy(want, foreign())
	lies(t, "Open", r.d, want)
	writes := r.d.Writes()
	r.power(-1)
	r.open()
	if writes < 20 || r.d.Writes() != 0 {
		t.Errorf("Open: %d raw writes, again: %d", writes, r.d.Writes())
	}
	r.do(line("yank alice zoo 1.0.0"))
}

// Each thing that Open mends, alone.
func TestP171EachAlone(t *testing.T) {
	clean, all := busy(t).m.files, spoilt(t)
	seen := 0
	for _, name := range slices.Sorted(maps.Keys(all)) {
		if _, is := foreign()[name]; is || all[name] == clean[name] {
			continue
		}
		files := maps.Clone(clean)
		files[name] = all[name]
		r := begun(t, files)
		lies(t, "Open with "+name, r.d, clean)
		seen++
	}
	for name := range clean {
		if strings.HasPrefix(name, "page/") {
			files := maps.Clone(clean)
			delete(files, name)
			lies(t, "Open without "+name, begun(t, files).d, clean)
			seen++
		}
	}
	if seen < 25 {
		t.Errorf("but %d things", seen)
	}
}

// The power is lost in each raw write of Open, and once more in the next one: told is the file that it was, the disk is as the model says, and at last it is mended.
func TestP171Cut(t *testing.T) {
	files := spoilt(t)
	whole := begun(t, files)
	total := whole.d.Writes()
	for first := range total + 1 {
		for _, second := range []int{0, 1, 2, (total - first) / 2, total - first - 1, total - first} {
			r := &run{t: t, d: laid(t, first, files), m: &model{files: maps.Clone(files), left: first}}
			if r.open() != (first == total) {
				t.Errorf("Open with the cut %d of %d", first, total)
			}
			r.power(max(second, 0))
			r.open()
			r.power(-1)
			r.open()
			lies(t, "Open at last", r.d, whole.m.files)
		}
		if t.Failed() {
			t.Fatalf("cut %d", first)
		}
	}
}

// A payload that is no event, or one that may not be done there, is told with its place, the first one of several; and nothing but the log is made clean.
func TestP171ErrLog(t *testing.T) {
	good := payloads(lines("account alice 0000000000000001", "account bob 0000000000000002", "publish alice foo 1.0.0 0 0000000000000000 1 0"))
	yank := payloads(lines("yank alice foo 1.0.0", "yank bob foo 1.0.0", "account alice 0000000000000003", "yank carol foo 1.0.0", "publish bob foo-bar 1.0.0 0 0000000000000000 1 0", "publish bob foobar 1.0.0 0 0000000000000000 1 0"))
	event := func(at int, under error) *api.Fault {
		return &api.Fault{Code: api.ErrEvent, At: at, Under: under}
	}
	short := func(at int) error { return &api.Fault{Code: api.ErrShort, At: at} }
	for i, c := range []struct {
		payloads []string
		at       int
		under    *api.Fault
	}{
		{[]string{"abc"}, 0, event(0, nil)},
		{[]string{""}, 0, event(0, short(0))},
		{append(slices.Clone(good), yank[0][:7]), 3, event(7, short(7))},
		{append(slices.Clone(good), yank[0], yank[0]), 4, refused("yank", no(api.ErrThere))},
		{append(slices.Clone(good), yank[1]), 3, refused("yank", no(api.ErrOwner))},
		{append(slices.Clone(good), yank[2], "abc"), 3, refused("account", no(api.ErrThere))},
		{append(slices.Clone(good), "\x0babc", yank[2]), 3, event(0, nil)},
		{append(slices.Clone(good), yank[3]), 3, refused("yank", no(api.ErrWho))},
		{append(slices.Clone(good), yank[4], yank[5]), 4, refused("publish", of(api.ErrLike, "foo-bar"))},
		{good[1:], 1, refused("publish", no(api.ErrWho))},
		{slices.Concat(good, slices.Repeat(payloads(lines("yank alice foo 1.0.0", "unyank alice foo 1.0.0")), 60), []string{yank[1]}), 123, refused("yank", no(api.ErrOwner))},
	} {
		want := &api.Fault{Code: api.ErrLog, At: c.at, Under: c.under}
		files := maps.Clone(foreign())
		for _, name := range []string{"stage/1", blobFile(7, 1), "page/zzz"} {
			files[name] = "not mended"
		}
		maps.Copy(files, logged(c.payloads...))
		clean := maps.Clone(files)
		last := logFile((len(c.payloads)-1)/64 + 1)
		files[last] += "torn"
		files["log/00000077"] = "loose"
		for cut := range 4 {
			r := &run{t: t, d: laid(t, cut, files), m: &model{files: maps.Clone(files), left: cut}}
			r.open()
			if cut < 2 {
				continue
			}
			s, err := store.Open(r.d)
			faulty(t, fmt.Sprintf("Open %d", i), err, want)
			if s != nil || r.d.Writes() != 2 || r.d.Dead() {
				t.Errorf("Open %d: a store, or %d raw writes", i, r.d.Writes())
			}
			lies(t, "Open of a log that may not be", r.d, clean)
		}
	}
}

// A blob that is meant is left as it is, also where it is not there, or has other bytes: Get tells so.
func TestP171BlobsStay(t *testing.T) {
	files := busy(t).m.files
	gone, other := blobFile(0, 2), blobFile(sumOf("abc"), 1)
	delete(files, gone)
	files[other] = "abd"
	r := begun(t, files)
	lies(t, "Open", r.d, files)
	if r.d.Writes() != 0 {
		t.Errorf("Open: %d raw writes", r.d.Writes())
	}
	_, err := r.s.Get("foo", "1.9.0")
	faulty(t, "Get of bytes that are not there", err, of(api.ErrNone, gone))
	_, err = r.s.Get("foo", "1.10.0")
	faulty(t, "Get of other bytes", err, of(api.ErrBlob, other))
	r.publish("bob", "foo", "3.0.0", nil, "abc")    // beside the other bytes of its sum
	r.publish("bob", "foo", "3.0.1", nil, alike(1)) // where they were
	r.publish("bob", "foo", "3.0.2", nil, alike(9))
	if text, err := r.s.Get("foo", "1.9.0"); text != alike(1) || err != nil {
		t.Errorf("Get = %q, %v", text, err)
	}
}

// crowded are those files with foreign ones beside them, so many in all.
func crowded(files map[string]string, n int) map[string]string {
	all := maps.Clone(files)
	for i := range n - len(files) {
		all[fmt.Sprint("x/", i)] = ""
	}
	return all
}

// A disk that has as many files as it may: a page takes the place of a spare one; where there is none, the disk's error is Open's, and what was done by then stays.
func TestP171Full(t *testing.T) {
	files := busy(t).m.files
	delete(files, "page/zoo")
	spare := maps.Clone(files)
	spare["page/zzz"] = "spare"
	r := begun(t, crowded(spare, api.MaxFiles))
	if len(r.d.Names()) != api.MaxFiles || !r.d.Has("page/zoo") {
		t.Errorf("Open: %d files", len(r.d.Names()))
	}
	files[blobFile(0, 2)] = "x" // no blob is mended, whatever it has
	for _, stale := range []string{"page/zoo", "page/foo"} {
		d := laid(t, -1, crowded(files, api.MaxFiles))
		if stale == "page/foo" { // of two that are stale the first one, and nothing behind it
			fine(t, "Put on the disk", d.Put("page/foo", "stale"))
		}
		was := d.Copy()
		s, err := store.Open(d)
		faulty(t, "Open of a full disk", err, of(api.ErrLong, "stage/2"))
		if s != nil || d.Writes() != was.Writes() || !disk.Same(d, was) {
			t.Error("Open of a full disk is a store, or has changed it")
		}
	}
}
