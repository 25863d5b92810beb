package disk_test

import (
	"errors"
	"maps"
	"math"
	"slices"
	"strings"
	"testing"

	"yankline/api"
	"yankline/disk"
)

// longest is the longest name that a file can have.
var longest = strings.Repeat("n", api.MaxPath)

// noNames are no files' names.
var noNames = []string{"", longest + "n", strings.Repeat("\x00", api.MaxPath+1), strings.Repeat("x", 1<<20)}

// oddNames are files' names, as odd as they may be.
var oddNames = []string{"a", " ", "\x00", "\xff", "/", "..", "a/b", "log/00000001", "ä€", "\xc3", longest, strings.Repeat("\xff", api.MaxPath)}

// faulty holds that err is the fault of that number and name, at no place and with nothing under it.
func faulty(t *testing.T, what string, err error, want api.Errno, name string) {
	t.Helper()
	var f *api.Fault
	if !errors.As(err, &f) || *f != (api.Fault{Code: want, What: name, At: -1}) || !errors.Is(err, want) {
		t.Errorf("%s: %.200v, want %v of %.140q", what, err, want, name)
	}
}

// fine holds that a call answered no error.
func fine(t *testing.T, what string, err error) {
	t.Helper()
	if err != nil {
		t.Errorf("%s: %.200v", what, err)
	}
}

// stands holds that the disk, which is alive, has just those files.
func stands(t *testing.T, what string, d *disk.Disk, want map[string]string) {
	t.Helper()
	if got, names := d.Names(), slices.Sorted(maps.Keys(want)); !slices.Equal(got, names) {
		t.Errorf("%s: the files %.140q, want %.140q", what, got, names)
	}
	for name, bytes := range want {
		if got, err := d.Read(name); got != bytes || err != nil {
			t.Errorf("%s: Read(%q) = %.140q, %v, want %.140q", what, name, got, err, bytes)
		}
		if n, err := d.Size(name); n != len(bytes) || err != nil {
			t.Errorf("%s: Size(%q) = %d, %v, want %d", what, name, n, err, len(bytes))
		}
		if !d.Has(name) {
			t.Errorf("%s: Has(%q) is false", what, name)
		}
	}
}

// counts holds how many raw writes were done, and whether the disk is dead.
func counts(t *testing.T, what string, d *disk.Disk, writes int, dead bool) {
	t.Helper()
	if d.Writes() != writes || d.Dead() != dead {
		t.Errorf("%s: Writes %d, Dead %v, want %d, %v", what, d.Writes(), d.Dead(), writes, dead)
	}
}

// laid is a disk with those files, started again with that cut.
func laid(cut int, files map[string]string) *disk.Disk {
	d := disk.New(-1)
	for name, bytes := range files {
		d.Put(name, bytes)
	}
	d.Restart(cut)
	return d
}

// call is a call of a method that answers an error, by the name that its faults have.
type call struct {
	what, name string
	do         func(d *disk.Disk) error
}

// calls are one of each of the methods that answer an error.
func calls() []call {
	return []call{
		{"Append", "a", func(d *disk.Disk) error { return d.Append("a", "x") }},
		{"Put", "a", func(d *disk.Disk) error { return d.Put("a", "x") }},
		{"Trunc", "a", func(d *disk.Disk) error { return d.Trunc("a", 0) }},
		{"Rename", "a", func(d *disk.Disk) error { return d.Rename("a", "b") }},
		{"Rename to itself", "a", func(d *disk.Disk) error { return d.Rename("a", "a") }},
		{"Remove", "a", func(d *disk.Disk) error { return d.Remove("a") }},
		{"Read", "a", func(d *disk.Disk) error { _, err := d.Read("a"); return err }},
		{"Size", "a", func(d *disk.Disk) error { _, err := d.Size("a"); return err }},
	}
}

func TestP31New(t *testing.T) {
	for _, cut := range []int{math.MinInt, -1, 0, 1, 7, math.MaxInt} {
		d := disk.New(cut)
		if d == nil {
			t.Fatalf("New(%d) is no disk", cut)
		}
		counts(t, "New", d, 0, false)
		stands(t, "New", d, nil)
	}
}

// The cut is how many raw writes are done; the next one is not, and nothing but a raw write loses the power.
func TestP31Cut(t *testing.T) {
	for _, restarted := range []bool{false, true} {
		for cut := range 5 {
			d := disk.New(cut)
			if restarted {
				d = disk.New(0)
				d.Append("a", "")
				counts(t, "cut 0", d, 0, true)
				fine(t, "Restart", d.Restart(cut))
			}
			want := map[string]string{}
			for i := range cut {
				fine(t, "Append", d.Append("a", "x"))
				want["a"] += "x"
				counts(t, "Append", d, i+1, false)
			}
			stands(t, "ahead of the cut", d, want)
			faulty(t, "Append at the cut", d.Append("a", "x"), api.ErrDead, "a")
			counts(t, "at the cut", d, cut, true)
			faulty(t, "Append behind the cut", d.Append("a", "x"), api.ErrDead, "a")
			counts(t, "behind the cut", d, cut, true)
			fine(t, "Restart", d.Restart(-1))
			stands(t, "behind the cut", d, want)
		}
	}
}

func TestP31NoCut(t *testing.T) {
	for _, cut := range []int{math.MinInt, -2, -1, math.MaxInt} {
		d := disk.New(cut)
		for i := range 1000 {
			fine(t, "Append", d.Append("a", "x"))
			counts(t, "Append", d, i+1, false)
		}
	}
}

// A disk is started again dead or alive; the files stay, what was counted goes.
func TestP31Restart(t *testing.T) {
	d := disk.New(2)
	fine(t, "Append", d.Append("a", strings.Repeat("x", 64)))
	faulty(t, "Put", d.Put("b", "y"), api.ErrDead, "b")
	fine(t, "Restart of a dead disk", d.Restart(3))
	counts(t, "Restart of a dead disk", d, 0, false)
	stands(t, "Restart of a dead disk", d, map[string]string{"a": strings.Repeat("x", 64)})
	fine(t, "Put", d.Put("b", "y"))
	counts(t, "Put", d, 2, false)
	fine(t, "Restart of a disk that lives", d.Restart(1))
	counts(t, "Restart of a disk that lives", d, 0, false)
	faulty(t, "Put", d.Put("b", "z"), api.ErrDead, "b")
	counts(t, "Put", d, 1, true)
	fine(t, "Restart", d.Restart(0))
	stands(t, "Restart", d, map[string]string{"a": strings.Repeat("x", 64), "b": ""})
	faulty(t, "Remove", d.Remove("b"), api.ErrDead, "b")
	counts(t, "Remove", d, 0, true)
}

func TestP33Read(t *testing.T) {
	files := map[string]string{"a": "", "b": "x", "c": strings.Repeat("\x00\xff", 999), "d": "ä€\x80"}
	for _, name := range oddNames {
		files[name] = "in " + name
	}
	d := laid(0, files)
	stands(t, "all names", d, files)
	counts(t, "reading", d, 0, false)
	for _, name := range []string{"e", "A", "a ", "aa", longest[1:]} {
		read, errRead := d.Read(name)
		size, errSize := d.Size(name)
		faulty(t, "Read", errRead, api.ErrNone, name)
		faulty(t, "Size", errSize, api.ErrNone, name)
		if read != "" || size != 0 || d.Has(name) {
			t.Errorf("of no file %q: Read %q, Size %d, Has %v", name, read, size, d.Has(name))
		}
	}
}

func TestP33NoName(t *testing.T) {
	alive, dead := laid(-1, map[string]string{"a": "x"}), laid(0, map[string]string{"a": "x"})
	faulty(t, "Remove", dead.Remove("a"), api.ErrDead, "a")
	for _, d := range []*disk.Disk{alive, dead} { // ErrArg is ahead of ErrDead
		for _, name := range noNames {
			read, errRead := d.Read(name)
			size, errSize := d.Size(name)
			faulty(t, "Read", errRead, api.ErrArg, name)
			faulty(t, "Size", errSize, api.ErrArg, name)
			if read != "" || size != 0 || d.Has(name) {
				t.Errorf("of no name %.140q: Read %q, Size %d, Has %v", name, read, size, d.Has(name))
			}
		}
	}
}

func TestP33Dead(t *testing.T) {
	d := laid(0, map[string]string{"a": "x"})
	faulty(t, "Remove", d.Remove("a"), api.ErrDead, "a")
	for _, name := range []string{"a", "b", longest} {
		read, errRead := d.Read(name)
		size, errSize := d.Size(name)
		faulty(t, "Read", errRead, api.ErrDead, name)
		faulty(t, "Size", errSize, api.ErrDead, name)
		if read != "" || size != 0 || d.Has(name) {
			t.Errorf("of a dead disk: Read %q, Size %d, Has %v", read, size, d.Has(name))
		}
	}
	if l := d.Names(); len(l) != 0 {
		t.Errorf("Names of a dead disk: %q", l)
	}
	fine(t, "Restart", d.Restart(-1))
	stands(t, "Restart", d, map[string]string{"a": "x"})
}

// Names rise byte by byte, in whatever order the files came to be.
func TestP33Names(t *testing.T) {
	want := slices.Sorted(slices.Values(append(slices.Clone(oddNames), "aa", "A", "b", "a\x00", "log/00000010", "log/00000002")))
	back := slices.Clone(want)
	slices.Reverse(back)
	for _, l := range [][]string{want, back} {
		d := disk.New(-1)
		for _, name := range l {
			fine(t, "Append", d.Append(name, ""))
		}
		if got := d.Names(); !slices.Equal(got, want) {
			t.Errorf("Names = %q, want %q", got, want)
		}
	}
}

// What Names told may be written over, spare room too.
func TestP33NamesNew(t *testing.T) {
	d := laid(-1, map[string]string{"a": "", "b": "", "c": ""})
	one, two := d.Names(), d.Names()
	for i := range one[:cap(one)] {
		one[:cap(one)][i] = "changed"
	}
	if want := []string{"a", "b", "c"}; !slices.Equal(two, want) || !slices.Equal(d.Names(), want) {
		t.Errorf("a list that was told is changed: %q, %q", two, d.Names())
	}
}

func TestP34Copy(t *testing.T) {
	files := map[string]string{"a": "", "b": strings.Repeat("x", 100)}
	for _, cut := range []int{math.MinInt, -1, 0, 1, 2, 3, 4} {
		d := laid(cut, files)
		d.Append("b", "y") // dead behind it, where the cut is 0
		c := d.Copy()
		counts(t, "Copy", c, d.Writes(), d.Dead())
		if !disk.Same(c, d) {
			t.Error("a copy has other files")
		}
		// The cut and the count are the copy's own from there on.
		for i := range 5 {
			dead := d.Dead() || cut >= 0 && 1+i >= cut
			if err := c.Append("a", "z"); errors.Is(err, api.ErrDead) != dead {
				t.Errorf("Append %d of a copy with the cut %d: %v", i, cut, err)
			}
		}
		if cut == 2 {
			counts(t, "the copy", c, 2, true)
			counts(t, "the first one", d, 1, false)
		}
	}
}

// What is done to a disk is not done to its copy, nor the other way round: whatever call it is, and also in the room behind their files.
func TestP34Apart(t *testing.T) {
	files := map[string]string{"a": strings.Repeat("x", 100), "b": "y"}
	for _, c := range []call{
		{"Append", "", func(d *disk.Disk) error { return d.Append("a", "more") }},
		{"Append of a new one", "", func(d *disk.Disk) error { return d.Append("c", "more") }},
		{"Put", "", func(d *disk.Disk) error { return d.Put("a", "other") }},
		{"Trunc", "", func(d *disk.Disk) error { return d.Trunc("a", 3) }},
		{"Trunc and Append", "", func(d *disk.Disk) error { return errors.Join(d.Trunc("a", 3), d.Append("a", "over")) }},
		{"Rename and Append", "", func(d *disk.Disk) error { return errors.Join(d.Rename("a", "b"), d.Append("b", "more")) }},
		{"Remove", "", func(d *disk.Disk) error { return d.Remove("a") }},
		{"Restart", "", func(d *disk.Disk) error { return d.Restart(0) }},
	} {
		for _, turned := range []bool{false, true} {
			d := laid(-1, files)
			d.Append("a", "z") // behind this there is room behind a's bytes
			one, two := d, d.Copy()
			if turned {
				one, two = two, one
			}
			fine(t, c.what, c.do(one))
			stands(t, c.what, two, map[string]string{"a": files["a"] + "z", "b": "y"})
			fine(t, "Append", two.Append("a", "OWN"))
			counts(t, c.what, two, 2, false)
			before, _ := one.Read("a")
			fine(t, "Append", two.Append("a", "OWN"))
			if after, _ := one.Read("a"); after != before {
				t.Errorf("%s: what is added to one disk is in the other one: %q", c.what, after)
			}
			stands(t, c.what, two, map[string]string{"a": files["a"] + "zOWNOWN", "b": "y"})
		}
	}
}

// Both add in the room that was behind a file when the copy was made.
func TestP34Room(t *testing.T) {
	for n := range 200 {
		d := laid(-1, map[string]string{"a": strings.Repeat("x", n)})
		c := d.Copy()
		both := c.Copy()
		d.Append("a", "1")
		c.Append("a", "2")
		both.Trunc("a", n/2)
		both.Append("a", "3")
		stands(t, "the first one", d, map[string]string{"a": strings.Repeat("x", n) + "1"})
		stands(t, "the copy", c, map[string]string{"a": strings.Repeat("x", n) + "2"})
		stands(t, "the copy's copy", both, map[string]string{"a": strings.Repeat("x", n/2) + "3"})
	}
}

func TestP34Same(t *testing.T) {
	a := map[string]string{"a": "x", "b": ""}
	for _, c := range []struct {
		files map[string]string
		want  bool
	}{
		{map[string]string{"a": "x", "b": ""}, true},
		{map[string]string{"a": "x"}, false},
		{map[string]string{"a": "x", "c": ""}, false},
		{map[string]string{"a": "x", "b": "", "c": ""}, false},
		{map[string]string{"a": "y", "b": ""}, false},
		{map[string]string{"a": "xx", "b": ""}, false},
		{map[string]string{"a": "", "b": "x"}, false},
		{nil, false},
	} {
		one, two := laid(-1, a), laid(7, c.files)
		for range 2 {
			if disk.Same(one, two) != c.want || disk.Same(two, one) != c.want {
				t.Errorf("Same of %q and %q is not %v", a, c.files, c.want)
			}
			one.Restart(0)
			one.Remove("a")
		}
	}
	if !disk.Same(disk.New(-1), disk.New(0)) {
		t.Error("two disks without files are not the same")
	}
	d := laid(-1, a)
	if !disk.Same(d, d) {
		t.Error("a disk is not the same as itself")
	}
	d.Trunc("a", 0)
	d.Append("a", "x")
	if !disk.Same(d, laid(-1, a)) {
		t.Error("the same files by other raw writes are not the same")
	}
}

// A disk that is not there, and one that New did not make.
func TestP01NoDisk(t *testing.T) {
	for _, d := range []*disk.Disk{nil, {}, new(disk.Disk)} {
		for _, c := range calls() {
			faulty(t, c.what, c.do(d), api.ErrNil, c.name)
		}
		for _, name := range noNames { // ErrNil is ahead of ErrArg
			faulty(t, "Append", d.Append(name, ""), api.ErrNil, name)
			faulty(t, "Put", d.Put(name, ""), api.ErrNil, name)
			faulty(t, "Trunc", d.Trunc(name, -1), api.ErrNil, name)
			faulty(t, "Rename", d.Rename(name, "b"), api.ErrNil, name)
			faulty(t, "Rename", d.Rename("a", name), api.ErrNil, "a")
			faulty(t, "Remove", d.Remove(name), api.ErrNil, name)
			_, err := d.Read(name)
			faulty(t, "Read", err, api.ErrNil, name)
			_, err = d.Size(name)
			faulty(t, "Size", err, api.ErrNil, name)
		}
		faulty(t, "Restart", d.Restart(-1), api.ErrNil, "")
		counts(t, "no disk", d, 0, false)
		if d.Has("a") || len(d.Names()) != 0 || d.Copy() != nil {
			t.Error("no disk tells something")
		}
		there := disk.New(-1)
		if disk.Same(d, d) || disk.Same(d, there) || disk.Same(there, d) || disk.Same(nil, d) {
			t.Error("no disk is the same as one")
		}
		faulty(t, "Append behind Restart", d.Append("a", "x"), api.ErrNil, "a")
	}
}

// Two disks share nothing.
func TestP01Apart(t *testing.T) {
	one, two := disk.New(-1), disk.New(0)
	fine(t, "Append", one.Append("a", "x"))
	stands(t, "the other disk", two, nil)
	counts(t, "the other disk", two, 0, false)
	faulty(t, "Append", two.Append("a", "x"), api.ErrDead, "a")
	counts(t, "the one disk", one, 1, false)
}
