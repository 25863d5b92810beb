package disk_test

import (
	"math"
	"strconv"
	"strings"
	"testing"

	"yankline/api"
	"yankline/disk"
)

func TestP32Examples(t *testing.T) {
	d := disk.New(-1)
	fine(t, "Append", d.Append("a", strings.Repeat("x", 33)))
	counts(t, "Append of 33 bytes", d, 2, false)
	fine(t, "Put", d.Put("a", "x"))
	counts(t, "Put", d, 4, false)
	stands(t, "Put", d, map[string]string{"a": "x"})
	faulty(t, "Trunc", d.Trunc("b", 0), api.ErrNone, "b")
	faulty(t, "Rename", d.Rename("b", "a"), api.ErrNone, "b")
	_, err := d.Read("b")
	faulty(t, "Read", err, api.ErrNone, "b")
	faulty(t, "Trunc", d.Trunc("a", 2), api.ErrArg, "a")
	faulty(t, "Append", d.Append("", "x"), api.ErrArg, "")
	counts(t, "calls that are wrong", d, 4, false)

	d = disk.New(1)
	faulty(t, "Append", d.Append("a", strings.Repeat("x", 40)), api.ErrDead, "a")
	counts(t, "Append of 40 bytes", d, 1, true)
	fine(t, "Restart", d.Restart(-1))
	stands(t, "Restart", d, map[string]string{"a": strings.Repeat("x", 32)})

	d = disk.New(0)
	faulty(t, "Put", d.Put("a", ""), api.ErrDead, "a")
	fine(t, "Restart", d.Restart(-1))
	stands(t, "Restart", d, nil)
}

func TestP32Append(t *testing.T) {
	d := disk.New(-1)
	want := ""
	for _, piece := range []string{"", "a", "", "\x00\xff", strings.Repeat("b", 31), strings.Repeat("c", 32), strings.Repeat("d", 1000), "e"} {
		fine(t, "Append", d.Append("a", piece))
		want += piece
		stands(t, "Append", d, map[string]string{"a": want})
	}
}

func TestP32Put(t *testing.T) {
	d := disk.New(-1)
	for _, bytes := range []string{"", "a", strings.Repeat("b", 100), "\x00", "", ""} {
		fine(t, "Put", d.Put("a", bytes))
		stands(t, "Put", d, map[string]string{"a": bytes})
	}
	fine(t, "Put", d.Put("b", "c"))
	stands(t, "Put of another one", d, map[string]string{"a": "", "b": "c"})
}

func TestP32Trunc(t *testing.T) {
	bytes := strings.Repeat("0123456789", 10)
	for n := range len(bytes) + 1 {
		d := laid(-1, map[string]string{"a": bytes, "b": "b"})
		fine(t, "Trunc", d.Trunc("a", n))
		counts(t, "Trunc", d, 1, false)
		stands(t, "Trunc", d, map[string]string{"a": bytes[:n], "b": "b"})
		fine(t, "Append", d.Append("a", "more"))
		stands(t, "Append behind Trunc", d, map[string]string{"a": bytes[:n] + "more", "b": "b"})
	}
	d := laid(-1, map[string]string{"a": bytes, "b": ""})
	for _, n := range []int{math.MinInt, -1, len(bytes) + 1, math.MaxInt} {
		faulty(t, "Trunc", d.Trunc("a", n), api.ErrArg, "a")
	}
	faulty(t, "Trunc", d.Trunc("b", 1), api.ErrArg, "b")
	fine(t, "Trunc", d.Trunc("b", 0))
	counts(t, "Trunc", d, 1, false)
	stands(t, "Trunc", d, map[string]string{"a": bytes, "b": ""})
}

func TestP32Rename(t *testing.T) {
	d := laid(-1, map[string]string{"a": "x", "b": "y", "c": ""})
	fine(t, "Rename", d.Rename("a", "d"))
	stands(t, "Rename to a new one", d, map[string]string{"d": "x", "b": "y", "c": ""})
	fine(t, "Rename", d.Rename("d", "b"))
	stands(t, "Rename to a file's", d, map[string]string{"b": "x", "c": ""})
	fine(t, "Rename", d.Rename("b", "b"))
	stands(t, "Rename to its own", d, map[string]string{"b": "x", "c": ""})
	fine(t, "Rename", d.Rename("c", longest))
	stands(t, "Rename to the longest", d, map[string]string{"b": "x", longest: ""})
	counts(t, "Rename", d, 4, false)
	for _, to := range []string{"a", "b", longest} {
		faulty(t, "Rename", d.Rename("a", to), api.ErrNone, "a")
	}
	fine(t, "Append", d.Append("b", "z"))
	stands(t, "Append behind Rename", d, map[string]string{"b": "xz", longest: ""})
}

func TestP32Remove(t *testing.T) {
	d := laid(-1, map[string]string{"a": "x", "b": ""})
	fine(t, "Remove", d.Remove("a"))
	stands(t, "Remove", d, map[string]string{"b": ""})
	faulty(t, "Remove", d.Remove("a"), api.ErrNone, "a")
	fine(t, "Remove", d.Remove("b"))
	stands(t, "Remove", d, nil)
	counts(t, "Remove", d, 2, false)
	fine(t, "Append", d.Append("a", "y"))
	stands(t, "Append behind Remove", d, map[string]string{"a": "y"})
}

// Names may be of any bytes; each is another file's.
func TestP32Names(t *testing.T) {
	d := disk.New(-1)
	want := map[string]string{}
	for _, name := range oddNames {
		fine(t, "Append", d.Append(name, name))
		want[name] = name
	}
	stands(t, "odd names", d, want)
	for _, name := range oddNames {
		fine(t, "Rename", d.Rename(name, "there"))
		fine(t, "Rename", d.Rename("there", name))
		fine(t, "Trunc", d.Trunc(name, 1))
		fine(t, "Put", d.Put(name, name))
	}
	stands(t, "odd names", d, want)
	for _, name := range oddNames {
		fine(t, "Remove", d.Remove(name))
	}
	stands(t, "odd names", d, nil)
}

// No name is ErrArg ahead of whatever else is wrong; of Rename it is of the first one that is none.
func TestP32NoName(t *testing.T) {
	files := map[string]string{"a": "x"}
	alive, dead := laid(-1, files), laid(0, files)
	faulty(t, "Remove", dead.Remove("a"), api.ErrDead, "a")
	long := strings.Repeat("x", api.MaxFile+1)
	for _, d := range []*disk.Disk{alive, dead} {
		for _, name := range noNames {
			faulty(t, "Append", d.Append(name, "x"), api.ErrArg, name)
			faulty(t, "Append", d.Append(name, long), api.ErrArg, name)
			faulty(t, "Put", d.Put(name, "x"), api.ErrArg, name)
			faulty(t, "Put", d.Put(name, long), api.ErrArg, name)
			faulty(t, "Trunc", d.Trunc(name, 0), api.ErrArg, name)
			faulty(t, "Remove", d.Remove(name), api.ErrArg, name)
			for _, other := range []string{"a", "b", longest} {
				faulty(t, "Rename", d.Rename(name, other), api.ErrArg, name)
				faulty(t, "Rename", d.Rename(other, name), api.ErrArg, name)
			}
			for _, other := range noNames {
				faulty(t, "Rename", d.Rename(name, other), api.ErrArg, name)
			}
		}
		counts(t, "no names", d, 0, d == dead)
	}
	dead.Restart(-1)
	stands(t, "no names", alive, files)
	stands(t, "no names", dead, files)
}

// ErrDead is ahead of what is asked of the file.
func TestP32Dead(t *testing.T) {
	d := laid(0, map[string]string{"a": "x"})
	faulty(t, "Append", d.Append("a", "x"), api.ErrDead, "a")
	long := strings.Repeat("x", api.MaxFile+1)
	for _, name := range []string{"a", "b"} {
		faulty(t, "Append", d.Append(name, long), api.ErrDead, name)
		faulty(t, "Append", d.Append(name, ""), api.ErrDead, name)
		faulty(t, "Put", d.Put(name, long), api.ErrDead, name)
		faulty(t, "Put", d.Put(name, ""), api.ErrDead, name)
		faulty(t, "Trunc", d.Trunc(name, 2), api.ErrDead, name)
		faulty(t, "Rename", d.Rename(name, name), api.ErrDead, name)
		faulty(t, "Rename", d.Rename(name, "c"), api.ErrDead, name)
		faulty(t, "Remove", d.Remove(name), api.ErrDead, name)
	}
	counts(t, "a dead disk", d, 0, true)
	fine(t, "Restart", d.Restart(-1))
	stands(t, "a dead disk", d, map[string]string{"a": "x"})
}

// What is wrong with the call itself is told ahead of the cut, and loses no power.
func TestP32AheadOfCut(t *testing.T) {
	d := laid(0, map[string]string{"a": "x"})
	long := strings.Repeat("x", api.MaxFile+1)
	faulty(t, "Append", d.Append("", "x"), api.ErrArg, "")
	faulty(t, "Trunc", d.Trunc("b", 0), api.ErrNone, "b")
	faulty(t, "Trunc", d.Trunc("b", -1), api.ErrNone, "b")
	faulty(t, "Rename", d.Rename("b", "a"), api.ErrNone, "b")
	faulty(t, "Remove", d.Remove("b"), api.ErrNone, "b")
	faulty(t, "Trunc", d.Trunc("a", 2), api.ErrArg, "a")
	faulty(t, "Append", d.Append("a", long), api.ErrLong, "a")
	faulty(t, "Put", d.Put("a", long), api.ErrLong, "a")
	counts(t, "calls that are wrong", d, 0, false)
	stands(t, "calls that are wrong", d, map[string]string{"a": "x"})
}

// A file of MaxFile bytes may be, one of one more not, however it comes to have them.
func TestP32MaxFile(t *testing.T) {
	full := strings.Repeat("x", api.MaxFile)
	d := disk.New(-1)
	faulty(t, "Append", d.Append("a", full+"x"), api.ErrLong, "a")
	faulty(t, "Put", d.Put("a", full+"x"), api.ErrLong, "a")
	counts(t, "too many bytes", d, 0, false)
	stands(t, "too many bytes", d, nil)
	fine(t, "Append", d.Append("a", full[1:]))
	faulty(t, "Append", d.Append("a", "xy"), api.ErrLong, "a")
	faulty(t, "Append", d.Append("a", full), api.ErrLong, "a")
	fine(t, "Append", d.Append("a", "x"))
	faulty(t, "Append", d.Append("a", "x"), api.ErrLong, "a")
	fine(t, "Append of no bytes", d.Append("a", ""))
	counts(t, "the whole file", d, api.MaxFile/api.Piece+2, false)
	stands(t, "the whole file", d, map[string]string{"a": full})
	faulty(t, "Put", d.Put("a", full+"x"), api.ErrLong, "a")
	fine(t, "Put", d.Put("a", full)) // what stood there does not count
	stands(t, "Put", d, map[string]string{"a": full})
	fine(t, "Trunc", d.Trunc("a", api.MaxFile-1))
	faulty(t, "Append", d.Append("a", "xy"), api.ErrLong, "a")
	fine(t, "Append", d.Append("a", "x"))
}

// MaxFiles files may be there; one more is not, by whichever call.
func TestP32MaxFiles(t *testing.T) {
	d := disk.New(-1)
	for i := range api.MaxFiles {
		if err := d.Append(strconv.Itoa(i), ""); err != nil {
			t.Fatalf("file %d: %v", i, err)
		}
	}
	counts(t, "all files", d, api.MaxFiles, false)
	for _, bytes := range []string{"", "x"} {
		faulty(t, "Append", d.Append("a", bytes), api.ErrLong, "a")
		faulty(t, "Put", d.Put("a", bytes), api.ErrLong, "a")
	}
	counts(t, "one more", d, api.MaxFiles, false)
	fine(t, "Append", d.Append("0", "x"))
	fine(t, "Put", d.Put("1", "x"))
	fine(t, "Rename", d.Rename("0", "a"))
	faulty(t, "Put", d.Put("0", ""), api.ErrLong, "0")
	fine(t, "Rename", d.Rename("1", "2"))
	fine(t, "Put", d.Put("0", ""))
	faulty(t, "Append", d.Append("1", "x"), api.ErrLong, "1")
	fine(t, "Remove", d.Remove("3"))
	fine(t, "Append", d.Append("1", "x"))
	if n := len(d.Names()); n != api.MaxFiles {
		t.Errorf("there are %d files", n)
	}
}

// Bytes come to be added in small steps as well as in great ones: none of them goes over the file anew.
func TestP32ManySteps(t *testing.T) {
	d := disk.New(-1)
	for range 1 << 20 {
		if err := d.Append("a", "xy"); err != nil {
			t.Fatal(err)
		}
	}
	counts(t, "many steps", d, 1<<20, false)
	stands(t, "many steps", d, map[string]string{"a": strings.Repeat("xy", 1<<20)})
}
