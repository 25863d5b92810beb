package log_test

import (
	"fmt"
	"maps"
	"slices"
	"strings"
	"testing"

	"yankline/api"
	"yankline/disk"
	"yankline/log"
)

// opened holds what Open makes of a disk with those files: with no cut, and with each cut, and then once more.
func opened(t *testing.T, what string, files map[string]string) {
	t.Helper()
	payloads, writes := model(files)
	for cut := range writes {
		d := laid(t, cut, files)
		l, err := log.Open(d)
		faulty(t, what+", cut", err, api.ErrDead, writes[cut].file, -1)
		if l != nil {
			t.Errorf("%s, cut: a log beside the error", what)
		}
		half := maps.Clone(files)
		for _, w := range writes[:cut] {
			w.do(half)
		}
		lies(t, what+", cut", d, half)
		again, rest := model(half)
		if !slices.Equal(again, payloads) || len(rest) != len(writes)-cut {
			t.Fatalf("%s, cut: other files are looked at", what)
		}
		fine(t, what, d.Restart(-1))
		l, err = log.Open(d)
		fine(t, what+", cut and opened again", err)
		settled(t, what+", cut and opened again", d, l, files, payloads, writes, len(rest))
	}
	for _, cut := range []int{-1, len(writes)} { // just enough power is no less than any
		d := laid(t, cut, files)
		l, err := log.Open(d)
		fine(t, what, err)
		settled(t, what, d, l, files, payloads, writes, len(writes))
	}
}

// settled holds a log that is open, and its disk: so many raw writes were needed, and to open it again is none.
func settled(t *testing.T, what string, d *disk.Disk, l *log.Log, files map[string]string, payloads []string, writes []write, needed int) {
	t.Helper()
	clean := maps.Clone(files)
	for _, w := range writes {
		w.do(clean)
	}
	tells(t, what, l, payloads, false)
	lies(t, what, d, clean)
	if d.Writes() != needed {
		t.Errorf("%s: %d raw writes, want %d", what, d.Writes(), needed)
	}
	fine(t, what, d.Restart(0))
	same, err := log.Open(d)
	fine(t, what+", opened again", err)
	tells(t, what+", opened again", same, payloads, false)
	lies(t, what+", opened again", d, clean)
	if d.Writes() != 0 || d.Dead() {
		t.Errorf("%s: opened again it is a raw write", what)
	}
}

func TestP51Examples(t *testing.T) {
	l, err := log.Open(disk.New(-1))
	fine(t, "Open of an empty disk", err)
	tells(t, "Open of an empty disk", l, nil, false)
	d := laid(t, -1, map[string]string{file(1): records("a", "b", "c"), file(2): records("d")})
	l, err = log.Open(d)
	fine(t, "Open", err)
	tells(t, "a file too many", l, []string{"a", "b", "c"}, false)
	lies(t, "a file too many", d, map[string]string{file(1): records("a", "b", "c")})
}

func TestP51NoDisk(t *testing.T) {
	var zero disk.Disk
	for _, d := range []*disk.Disk{nil, &zero} {
		l, err := log.Open(d)
		faulty(t, "Open of no disk", err, api.ErrNil, "", -1)
		if l != nil {
			t.Error("Open of no disk is a log")
		}
	}
}

func TestP51DeadDisk(t *testing.T) {
	for _, files := range []map[string]string{{}, {file(1): records("a")}, {file(1): "x", file(2): "x"}, filesOf(some(0, 65)), {file(2): ""}} {
		d := laid(t, 0, files)
		faulty(t, "Put", d.Put("other", ""), api.ErrDead, "other", -1)
		l, err := log.Open(d)
		faulty(t, "Open of a dead disk", err, api.ErrDead, "log/00000001", -1)
		if l != nil {
			t.Error("Open of a dead disk is a log")
		}
		lies(t, "a dead disk", d, files)
	}
}

// spoilt are bytes with no whole record at the front.
func spoilt() map[string]string {
	long := record(strings.Repeat("x", 200))
	turned := []byte(record("abc"))
	turned[14] ^= 1
	return map[string]string{
		"a byte":             "\x00",
		"a head":             record("abc")[:12],
		"a torn record":      long[:96],
		"a bad record":       string(turned),
		"a length too long":  "\xff\xff\xff\xff12345678",
		"noughts":            strings.Repeat("\x00", 12),
		"a bad one and good": string(turned) + record("good"),
	}
}

// What stands behind the records is cut off, whatever it is, and whatever number of records is ahead.
func TestP51Spoilt(t *testing.T) {
	for what, behind := range spoilt() {
		for _, n := range []int{0, 1, 2, 63, 64, 65, 70, 128} {
			opened(t, what, map[string]string{file(1): records(some(0, n)...) + behind})
			opened(t, what+", and files behind", map[string]string{file(1): records(some(0, n)...) + behind, file(2): records("x"), file(3): ""})
			files := filesOf(some(0, 64))
			files[file(2)] = records(some(64, n)...) + behind
			opened(t, what+" in file 2", files)
			files[file(3)] = records(some(200, 64)...)
			opened(t, what+" in file 2, and a file 3", files)
		}
	}
}

// contents are what a file may have; nil: there is none.
func contents() []*string {
	l := []*string{nil}
	for _, s := range []string{
		"", "x", records("a"), records("a", "b") + "x", records(some(0, 63)...), records(some(0, 63)...) + record("torn")[:15],
		records(some(0, 64)...), records(some(0, 64)...) + "x", records(some(0, 65)...), records(some(0, 130)...) + "x",
		records(some(0, 10)...) + "\x00\x00\x00\x00\x00\x00\x00\x00\x00\x00\x00\x00" + records(some(0, 54)...), strings.Repeat(record(""), 64),
	} {
		l = append(l, &s)
	}
	return l
}

// All that three files may have.
func TestP51EachContents(t *testing.T) {
	l := contents()
	for i, first := range l {
		for j, second := range l {
			for k, third := range l {
				files := map[string]string{}
				for n, s := range []*string{first, second, third} {
					if s != nil {
						files[file(n+1)] = *s
					}
				}
				opened(t, fmt.Sprint("contents ", i, j, k), files)
			}
		}
	}
}

// Records go on over many files; each of them is looked at up to the first that is not full.
func TestP51Files(t *testing.T) {
	for _, n := range []int{0, 1, 63, 64, 65, 127, 128, 129, 640, 700} {
		files := filesOf(some(0, n))
		opened(t, fmt.Sprint(n, " records"), files)
		for _, without := range []int{1, 2, 3, 9, 10} {
			fewer := maps.Clone(files)
			delete(fewer, file(without))
			opened(t, fmt.Sprint(n, " records without file ", without), fewer)
			fewer[file(without)] = files[file(without)] + "x"
			opened(t, fmt.Sprint(n, " records with a byte behind file ", without), fewer)
		}
	}
}

// Files that are named as none of a log's stay as they are; those of higher numbers go, however far off.
func TestP51OtherNames(t *testing.T) {
	others := []string{
		"log/00000000", "log/0", "log/2", "log/0000002", "log/000000002", "log/100000002", "log/0000000x", "log/x0000002", "log/+0000002", "log/-0000002",
		"log/ 0000002", "log/00000002 ", "log/0000000２", "log/00000002x", "log/00000002/", "log/", "log", "Log/00000002", "log//0000002", "log00000002",
		"/log/00000002", "x/log/00000002", "00000002", "blob/00000002", "stage/2", "page/log", "log/:0000002", "log//0000003", "log/0000000\xff", "log/99999999x",
	}
	files := map[string]string{}
	for _, name := range others {
		files[name] = records("kept")
	}
	opened(t, "other names alone", files)
	far := []int{2, 3, 4, 9, 10, 11, 99, 100, 256, 257, 99999999}
	for _, n := range far {
		files[file(n)] = records("far")
	}
	opened(t, "no file 1", files)
	files[file(1)] = records("a")
	opened(t, "a file 1", files)
	files[file(1)] = records(some(0, 64)...)
	opened(t, "a full file 1", files)
	files[file(2)] = records(some(0, 64)...)
	files[file(3)] = records(some(0, 64)...) + "x"
	opened(t, "a full file 1 and 2", files)
}

// A disk may have more records than a log may be added to: Open tells them all.
func TestP51More(t *testing.T) {
	d := disk.New(-1)
	full := strings.Repeat(record("a"), 64)
	n := api.MaxEvents/64 + 2
	for i := range n {
		fine(t, "Put", d.Put(file(i+1), full))
	}
	fine(t, "Restart", d.Restart(0))
	l, err := log.Open(d)
	fine(t, "Open", err)
	if l.Len() != 64*n || l.Files() != n || len(l.From(0)) != 64*n {
		t.Errorf("%d records in %d files, want %d in %d", l.Len(), l.Files(), 64*n, n)
	}
	faulty(t, "Append", l.Append("a"), api.ErrLong, "", -1)
	if d.Dead() || d.Writes() != 0 || l.Broken() {
		t.Error("what is refused is a raw write")
	}
}

// A file of bytes as many as may be, with records far more than are looked at.
func TestP51Long(t *testing.T) {
	text := strings.Repeat(record(""), api.MaxFile/12) + "rest"
	if len(text) != api.MaxFile {
		t.Fatalf("%d bytes", len(text))
	}
	d := laid(t, -1, map[string]string{file(1): text, file(2): text})
	l, err := log.Open(d)
	fine(t, "Open", err)
	tells(t, "Open", l, make([]string, 64), false)
	lies(t, "Open", d, map[string]string{file(1): text[:64*12]})
}

// What a log is opened with goes on to the file that has room: not to one that was made full, nor to one behind an empty one.
func TestP51GoesOn(t *testing.T) {
	full := records(some(0, 64)...)
	for _, c := range []struct {
		what        string
		files, then map[string]string
	}{
		{"none", nil, map[string]string{file(1): record("z")}},
		{"an empty file 1", map[string]string{file(1): ""}, map[string]string{file(1): record("z")}},
		{"a byte", map[string]string{file(1): "x"}, map[string]string{file(1): record("z")}},
		{"63 records", map[string]string{file(1): records(some(0, 63)...)}, map[string]string{file(1): records(some(0, 63)...) + record("z")}},
		{"63 records and a byte", map[string]string{file(1): records(some(0, 63)...) + "x"}, map[string]string{file(1): records(some(0, 63)...) + record("z")}},
		{"64 records", map[string]string{file(1): full}, map[string]string{file(1): full, file(2): record("z")}},
		{"64 records and a byte", map[string]string{file(1): full + "x"}, map[string]string{file(1): full, file(2): record("z")}},
		{"64 records and an empty file", map[string]string{file(1): full, file(2): ""}, map[string]string{file(1): full, file(2): record("z")}},
		{"64 records and a byte in file 2", map[string]string{file(1): full, file(2): "x"}, map[string]string{file(1): full, file(2): record("z")}},
		{"65 records in file 1", map[string]string{file(1): full + record("y")}, map[string]string{file(1): full, file(2): record("z")}},
		{"65 records in file 1, and a file 2", map[string]string{file(1): full + record("y"), file(2): full}, map[string]string{file(1): full, file(2): record("z")}},
		{"two full files", map[string]string{file(1): full, file(2): full}, map[string]string{file(1): full, file(2): full, file(3): record("z")}},
	} {
		d := laid(t, -1, c.files)
		l, err := log.Open(d)
		fine(t, c.what, err)
		was := l.From(0)
		fine(t, c.what, l.Append("z"))
		tells(t, c.what, l, append(was, "z"), false)
		lies(t, c.what, d, c.then)
		opened(t, c.what, c.then)
	}
}

// Behind Open the disk has just the log's records, also behind ones that were added since.
func TestP55Again(t *testing.T) {
	d := laid(t, -1, map[string]string{file(1): records(some(0, 60)...) + "x", file(2): "x", "page/a": "page"})
	l, err := log.Open(d)
	fine(t, "Open", err)
	want := l.From(0)
	for i, p := range some(60, 140) {
		fine(t, "Append", l.Append(p))
		want = append(want, p)
		files := filesOf(want)
		files["page/a"] = "page"
		lies(t, "Append", d, files)
		if i%7 == 0 || len(want)%64 < 2 {
			again := d.Copy()
			fine(t, "Restart", again.Restart(0))
			same, err := log.Open(again)
			fine(t, "Open again", err)
			tells(t, "Open again", same, want, false)
			if again.Dead() || again.Writes() != 0 || !disk.Same(again, d) {
				t.Error("Open again is a raw write")
			}
		}
	}
}
