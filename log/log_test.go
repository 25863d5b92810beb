package log_test

import (
	"math"
	"slices"
	"strconv"
	"strings"
	"testing"

	"yankline/api"
	"yankline/disk"
	"yankline/log"
)

// begun is a log on an empty disk.
func begun(t *testing.T, cut int) (*disk.Disk, *log.Log) {
	t.Helper()
	d := disk.New(cut)
	l, err := log.Open(d)
	if err != nil {
		t.Fatalf("Open of an empty disk: %v", err)
	}
	return d, l
}

func TestP52Examples(t *testing.T) {
	d, l := begun(t, -1)
	fine(t, "Append", l.Append("a"))
	fine(t, "Append", l.Append("b"))
	tells(t, "a and b", l, []string{"a", "b"}, false)
	l, err := log.Open(d)
	fine(t, "Open", err)
	if got := l.From(1); !slices.Equal(got, []string{"b"}) {
		t.Errorf("From(1) = %q", got)
	}
	d, l = begun(t, 1)
	faulty(t, "Append of 100 bytes", l.Append(strings.Repeat("x", 100)), api.ErrDead, file(1), -1)
	faulty(t, "Append again", l.Append("a"), api.ErrState, "", -1)
	tells(t, "a cut", l, nil, true)
	fine(t, "Restart", d.Restart(-1))
	l, err = log.Open(d)
	fine(t, "Open", err)
	tells(t, "Open", l, nil, false)
	lies(t, "Open", d, map[string]string{file(1): ""})
}

// Records stand in the files as they are made, 64 a file; each Append is the disk's of just that record.
func TestP52Append(t *testing.T) {
	d, l := begun(t, -1)
	var want []string
	writes := 0
	for _, p := range append(some(0, 200), "", "\x00\xff", record("a"), strings.Repeat("m", api.MaxRecord)) {
		fine(t, "Append", l.Append(p))
		want = append(want, p)
		writes += (len(p) + 12 + 31) / 32
		if d.Writes() != writes {
			t.Fatalf("%d raw writes behind %d records, want %d", d.Writes(), len(want), writes)
		}
		lies(t, "Append", d, filesOf(want))
	}
	tells(t, "Append", l, want, false)
}

// Files of the longest records are no longer than a file may be.
func TestP52Longest(t *testing.T) {
	d, l := begun(t, -1)
	var want []string
	for i := range 65 {
		want = append(want, strings.Repeat(string(rune('0'+i)), api.MaxRecord))
		fine(t, "Append", l.Append(want[i]))
	}
	lies(t, "the longest records", d, filesOf(want))
	l, err := log.Open(d)
	fine(t, "Open", err)
	tells(t, "the longest records", l, want, false)
}

func TestP52TooLong(t *testing.T) {
	d, l := begun(t, -1)
	fine(t, "Append", l.Append("a"))
	for _, n := range []int{api.MaxRecord + 1, api.MaxRecord * 2, 1 << 25} {
		faulty(t, "Append of too many bytes", l.Append(strings.Repeat("x", n)), api.ErrLong, "", -1)
	}
	tells(t, "too many bytes", l, []string{"a"}, false)
	lies(t, "too many bytes", d, filesOf([]string{"a"}))
	fine(t, "Append of as many as may be", l.Append(strings.Repeat("x", api.MaxRecord)))
}

func TestP52TooMany(t *testing.T) {
	d, l := begun(t, -1)
	var want []string
	for i := range api.MaxEvents {
		want = append(want, strconv.Itoa(i))
		fine(t, "Append", l.Append(want[i]))
	}
	lies(t, "as many as may be", d, filesOf(want))
	writes := d.Writes()
	for range 2 {
		faulty(t, "one more", l.Append("more"), api.ErrLong, "", -1)
	}
	if d.Writes() != writes || l.Len() != api.MaxEvents || l.Files() != api.MaxEvents/64 || l.Broken() {
		t.Errorf("one more: %d raw writes, %d records, %d files", d.Writes()-writes, l.Len(), l.Files())
	}
	l, err := log.Open(d)
	fine(t, "Open", err)
	if got := l.From(0); !slices.Equal(got, want) {
		t.Errorf("Open tells %d records", len(got))
	}
	faulty(t, "one more, opened again", l.Append("more"), api.ErrLong, "", -1)
}

// A log that a cut has broken stays so, whatever comes, and tells that first.
func TestP52Broken(t *testing.T) {
	d, l := begun(t, 3)
	for _, p := range []string{"a", "b", "c"} {
		fine(t, "Append", l.Append(p))
	}
	faulty(t, "Append at the cut", l.Append("d"), api.ErrDead, file(1), -1)
	for range 2 {
		faulty(t, "Append behind the cut", l.Append("e"), api.ErrState, "", -1)
		faulty(t, "Append of too many bytes behind the cut", l.Append(strings.Repeat("x", api.MaxRecord+1)), api.ErrState, "", -1)
		tells(t, "behind the cut", l, []string{"a", "b", "c"}, true)
		fine(t, "Restart", d.Restart(-1))
	}
	if d.Writes() != 0 {
		t.Error("a broken log writes")
	}
	lies(t, "behind the cut", d, filesOf([]string{"a", "b", "c"}))
}

// Who lost the power is all one: the log knows it by its own next record, and not ahead of that.
func TestP52DeadByOthers(t *testing.T) {
	d, l := begun(t, 1)
	fine(t, "Append", l.Append("a"))
	faulty(t, "Put by another", d.Put("other", ""), api.ErrDead, "other", -1)
	tells(t, "ahead of Append", l, []string{"a"}, false)
	faulty(t, "Append of too many bytes", l.Append(strings.Repeat("x", api.MaxRecord+1)), api.ErrLong, "", -1)
	tells(t, "behind what is refused", l, []string{"a"}, false)
	alive, err := log.Open(d)
	faulty(t, "Open", err, api.ErrDead, file(1), -1)
	if alive != nil {
		t.Error("Open of a dead disk is a log")
	}
	faulty(t, "Append", l.Append("b"), api.ErrDead, file(1), -1)
	tells(t, "behind Append", l, []string{"a"}, true)

	d, l = begun(t, 1)
	fine(t, "Append", l.Append("a"))
	faulty(t, "Put by another", d.Put("other", ""), api.ErrDead, "other", -1)
	fine(t, "Restart", d.Restart(-1))
	fine(t, "Append", l.Append("b")) // the log has lost nothing
	tells(t, "started again", l, []string{"a", "b"}, false)
	lies(t, "started again", d, filesOf([]string{"a", "b"}))
}

// A disk's error that is no cut breaks nothing: the record is added when there is room.
func TestP52NoRoom(t *testing.T) {
	d := disk.New(-1)
	for i := range api.MaxFiles {
		fine(t, "Put", d.Put("other/"+strconv.Itoa(i), ""))
	}
	l, err := log.Open(d)
	fine(t, "Open", err)
	for range 2 {
		faulty(t, "Append without room", l.Append("a"), api.ErrLong, file(1), -1)
		tells(t, "without room", l, nil, false)
	}
	fine(t, "Remove", d.Remove("other/0"))
	want := some(0, 64)
	for _, p := range want {
		fine(t, "Append with room", l.Append(p))
	}
	for range 3 { // each time for the same file
		faulty(t, "Append without room for a file 2", l.Append("b"), api.ErrLong, file(2), -1)
		tells(t, "without room for a file 2", l, want, false)
	}
	fine(t, "Remove", d.Remove("other/1"))
	fine(t, "Append with room", l.Append("b"))
	tells(t, "with room", l, append(want, "b"), false)
	if got, err := d.Read(file(2)); got != record("b") || err != nil {
		t.Errorf("file 2: %.40q, %v", got, err)
	}
}

func TestP53Examples(t *testing.T) {
	_, l := begun(t, -1)
	want := some(0, 65)
	for _, p := range want {
		fine(t, "Append", l.Append(p))
	}
	if l.Files() != 2 {
		t.Errorf("Files = %d", l.Files())
	}
	if got, err := l.At(64); got != want[64] || err != nil {
		t.Errorf("At(64) = %q, %v", got, err)
	}
	_, err := l.At(65)
	faulty(t, "At(65)", err, api.ErrArg, "", 65)
}

func TestP53Far(t *testing.T) {
	_, l := begun(t, -1)
	for _, n := range []int{0, 3} {
		for l.Len() < n {
			fine(t, "Append", l.Append("a"))
		}
		for _, i := range []int{math.MinInt, -2, -1, n, n + 1, 1 << 14, math.MaxInt} {
			got, err := l.At(i)
			faulty(t, "At", err, api.ErrArg, "", i)
			if got != "" {
				t.Errorf("At(%d) tells %q beside its error", i, got)
			}
		}
		if len(l.From(math.MinInt)) != n || len(l.From(math.MaxInt)) != 0 || len(l.From(n)) != 0 {
			t.Error("From of a place that is far off")
		}
	}
}

// How many files hold records, at each number of them.
func TestP53Files(t *testing.T) {
	_, l := begun(t, -1)
	for n := range 200 {
		if want := (n + 63) / 64; l.Files() != want {
			t.Errorf("Files of %d records = %d, want %d", n, l.Files(), want)
		}
		fine(t, "Append", l.Append("a"))
	}
	empty, err := log.Open(laid(t, -1, map[string]string{file(1): ""}))
	fine(t, "Open", err)
	if empty.Files() != 0 {
		t.Errorf("Files = %d, of an empty file", empty.Files())
	}
}

// A log keeps what it has by itself: it tells it when its disk is dead, and when its files are gone.
func TestP53Keeps(t *testing.T) {
	d, l := begun(t, -1)
	want := some(0, 70)
	for _, p := range want {
		fine(t, "Append", l.Append(p))
	}
	fine(t, "Restart", d.Restart(0))
	faulty(t, "Remove", d.Remove(file(1)), api.ErrDead, file(1), -1)
	tells(t, "a dead disk", l, want, false)
	fine(t, "Restart", d.Restart(-1))
	fine(t, "Put", d.Put(file(2), "other"))
	fine(t, "Remove", d.Remove(file(1)))
	tells(t, "no file", l, want, false)
	read, err := log.Open(laid(t, -1, filesOf(want)))
	fine(t, "Open", err)
	tells(t, "a log that was read", read, want, false)
}

// An iterator tells what there is when going over it begins; it may be left early and gone over again.
func TestP53AllBegins(t *testing.T) {
	_, l := begun(t, -1)
	all := l.All()
	if got := gone(t, all); len(got) != 0 {
		t.Errorf("All of none tells %q", got)
	}
	want := some(0, 5)
	for _, p := range want {
		fine(t, "Append", l.Append(p))
	}
	if got := gone(t, all); !slices.Equal(got, want) { // the same iterator, begun now
		t.Errorf("All tells %q, want %q", got, want)
	}
	told := 0
	for i, p := range all {
		if p != want[i] {
			t.Errorf("All tells %q at %d", p, i)
		}
		fine(t, "Append on the way", l.Append("more"))
		told++
	}
	if told != 5 || l.Len() != 10 {
		t.Errorf("All tells %d of 5, and there are %d", told, l.Len())
	}
	for n := range 10 {
		left := 0
		for i := range all {
			if i != left {
				t.Errorf("All tells the place %d at %d", i, left)
			}
			if left++; left > n {
				break
			}
		}
		if left != n+1 {
			t.Errorf("All, left behind %d, told %d", n+1, left)
		}
	}
	if got := gone(t, all); len(got) != 10 {
		t.Errorf("gone over again All tells %d", len(got))
	}
	for i := range all { // one in the other
		inner := 0
		for range all {
			inner++
		}
		if inner != 10 {
			t.Errorf("All within All tells %d, at %d", inner, i)
		}
	}
}

func TestP01Nil(t *testing.T) {
	var zero log.Log
	for what, l := range map[string]*log.Log{"a nil log": nil, "a zero log": &zero} {
		for range 2 {
			faulty(t, what+": Append", l.Append("a"), api.ErrNil, "", -1)
			faulty(t, what+": Append of too many bytes", l.Append(strings.Repeat("x", api.MaxRecord+1)), api.ErrNil, "", -1)
		}
		for _, i := range []int{math.MinInt, -1, 0, 1, math.MaxInt} {
			got, err := l.At(i)
			faulty(t, what+": At", err, api.ErrNil, "", -1)
			if got != "" || len(l.From(i)) != 0 {
				t.Errorf("%s tells payloads", what)
			}
		}
		if l.Len() != 0 || l.Files() != 0 || l.Broken() || len(gone(t, l.All())) != 0 {
			t.Errorf("%s tells something", what)
		}
	}
}

// An answer is new memory, spare room included: what is written into it is seen by nobody else.
func TestP01NewMemory(t *testing.T) {
	d, l := begun(t, -1)
	want := some(0, 70)
	for _, p := range want {
		fine(t, "Append", l.Append(p))
	}
	read, err := log.Open(d)
	fine(t, "Open", err)
	for _, l := range []*log.Log{l, read} {
		for _, i := range []int{-1, 0, 3, 69, 70} {
			a, b := l.From(i), l.From(i)
			a = a[:cap(a)]
			for j := range a {
				a[j] = "written over"
			}
			if !slices.Equal(b, want[max(i, 0):]) {
				t.Errorf("From(%d) is another one's memory", i)
			}
		}
		tells(t, "written over", l, want, false)
		again := l.From(0)
		_ = append(again, "more")
		fine(t, "Append", l.Append("z"))
		tells(t, "and added to", l, append(slices.Clone(want), "z"), false)
	}
}

// A fault is one call's: what is written into it is not the next one's.
func TestP01Faults(t *testing.T) {
	_, l := begun(t, -1)
	_, first := l.At(3)
	first.(*api.Fault).At = 9
	_, second := l.At(3)
	faulty(t, "At", second, api.ErrArg, "", 3)
	_, none := log.Open(nil)
	none.(*api.Fault).What = "changed"
	_, none = log.Open(nil)
	faulty(t, "Open", none, api.ErrNil, "", -1)
}

// Two logs go on apart, on disks of their own.
func TestP01Apart(t *testing.T) {
	a, la := begun(t, -1)
	b, lb := begun(t, -1)
	var want []string
	for _, p := range some(0, 130) {
		fine(t, "Append", la.Append(p))
		want = append(want, p)
		if len(want)%2 == 0 {
			fine(t, "Append", lb.Append("b"))
		}
	}
	lies(t, "the first", a, filesOf(want))
	lies(t, "the second", b, filesOf(slices.Repeat([]string{"b"}, 65)))
	tells(t, "the first", la, want, false)
}
