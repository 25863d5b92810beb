package blob_test

import (
	"fmt"
	"maps"
	"math"
	"slices"
	"strings"
	"testing"

	"yankline/api"
	"yankline/blob"
	"yankline/disk"
)

// others are files that are neither blobs' nor staged, though some look so.
func others() map[string]string {
	files := map[string]string{}
	for _, name := range []string{
		"stage", "stage/", "stage/0", "stage/01", "stage/-1", "stage/+1", "stage/1 ", "stage/x", "stage/1/", "stage/2147483648", "stage/18446744073709551617", "Stage/1", "/stage/1", "stages/1",
		"blob", "blob/", "blob/abc-1", "Blob/" + file(of("abc", 1))[5:], file(of("abc", 1)) + "/", file(of("abc", 1)) + "x", "blob/" + strings.ToUpper(file(of("abc", 1))[5:21]) + "-1",
		file(of("abc", 0)), file(of("abc", 1))[:22], file(of("abc", 1))[:21], file(of("abc", 1))[:21] + "-01", file(of("abc", 1))[:21] + "-4294967296", file(of("abc", 1))[:21] + "-4294967297",
		"log/00000001", "page/abc", "x", "\x00",
	} {
		files[name] = "abc"
	}
	return files
}

// mixed are such files with blobs among them: in order, with numbers that are not in their order as texts, with gaps, and with other bytes in some.
func mixed() map[string]string {
	files := others()
	for _, n := range []uint32{1, 2, 9, 10, 11, 100, math.MaxUint32} {
		files[file(api.Blob{Sum: 7, N: n})] = fmt.Sprint("other bytes ", n)
	}
	for i, text := range alike(4, "") {
		files[file(of(text, uint32(3*i+1)))] = text
	}
	files[file(of("abc", 2))] = "abc"
	files[file(of("", 1))] = ""
	files[file(of("long", 1))] = strings.Repeat("x", 100)
	files[file(api.Blob{Sum: math.MaxUint64, N: 1})] = ""
	return files
}

func TestP121Examples(t *testing.T) {
	d := laid(t, -1, map[string]string{"stage/1": "half", file(of("abc", 1)): "abc", "stage/12": ""})
	s, err := blob.Open(d)
	fine(t, "Open", err)
	want := map[string]string{file(of("abc", 1)): "abc"}
	lies(t, "Open", d, want)
	tells(t, "Open", s, want, "abc", "half")
}

func TestP121NoDisk(t *testing.T) {
	for _, d := range []*disk.Disk{nil, {}, new(disk.Disk)} {
		s, err := blob.Open(d)
		faulty(t, "Open of no disk", err, api.ErrNil, "")
		if s != nil {
			t.Error("Open of no disk is a store")
		}
	}
}

func TestP121Dead(t *testing.T) {
	for _, files := range []map[string]string{{}, {"stage/1": "x"}, mixed()} {
		d := laid(t, 0, files)
		faulty(t, "Put on the disk", d.Put("y", ""), api.ErrDead, "y")
		s, err := blob.Open(d)
		faulty(t, "Open of a dead disk", err, api.ErrDead, "")
		if s != nil {
			t.Error("Open of a dead disk is a store")
		}
		lies(t, "Open of a dead disk", d, files)
	}
}

// What is staged is removed, whatever its number, and nothing else; where there is none, no raw write is needed.
func TestP121Staged(t *testing.T) {
	for _, numbers := range [][]string{{}, {"1"}, {"2"}, {"2147483647"}, {"1", "2", "3"}, {"1", "10", "11", "2", "2147483647", "9", "99999999"}} {
		clean := mixed()
		files := maps.Clone(clean)
		for _, n := range numbers {
			files["stage/"+n] = "staged " + n
		}
		d := laid(t, len(numbers), files)
		s, err := blob.Open(d)
		fine(t, "Open", err)
		lies(t, "Open", d, clean)
		tells(t, "Open", s, clean, "abc", "", "x")
		if d.Writes() != len(numbers) || d.Dead() {
			t.Errorf("Open with %d staged: %d raw writes", len(numbers), d.Writes())
		}
	}
}

func TestP122Examples(t *testing.T) {
	d, s := opened(t, nil)
	for _, c := range []struct {
		bytes string
		want  api.Blob
	}{{"abc", api.Blob{Sum: 0xe71fa2190541574b, N: 1}}, {"abc", api.Blob{Sum: 0xe71fa2190541574b, N: 1}}, {"", api.Blob{Sum: 0xcbf29ce484222325, N: 1}}} {
		b, err := s.Put(c.bytes)
		fine(t, "Put", err)
		if b != c.want {
			t.Errorf("Put(%q) = %v, want %v", c.bytes, b, c.want)
		}
		if b, is := s.Find(c.bytes); b != c.want || !is {
			t.Errorf("Find(%q) = %v, %v, want %v", c.bytes, b, is, c.want)
		}
	}
	lies(t, "Put", d, map[string]string{"blob/e71fa2190541574b-1": "abc", "blob/cbf29ce484222325-1": ""})
	if b, is := s.Find("xyz"); b != (api.Blob{}) || is {
		t.Errorf("Find of what is not there = %v, %v", b, is)
	}
}

// Bytes of each length are a blob, up to the bound, by just the raw writes that they need.
func TestP122Lengths(t *testing.T) {
	d, s := opened(t, nil)
	for _, n := range []int{0, 1, 31, 32, 33, 63, 64, 65, 1000, api.MaxBytes - 1, api.MaxBytes} {
		bytes := strings.Repeat("\xff", n)
		fine(t, "Restart", d.Restart(2+(n+31)/32))
		b, err := s.Put(bytes)
		fine(t, "Put", err)
		if got, err := s.Get(b); b != of(bytes, 1) || got != bytes || err != nil || d.Writes() != 2+(n+31)/32 {
			t.Errorf("Put of %d bytes: %v, of which Get is %.50q, %v, by %d raw writes", n, b, got, err, d.Writes())
		}
		fine(t, "Restart", d.Restart(0))
		if again, err := s.Put(bytes); again != b || err != nil || d.Writes() != 0 || d.Dead() {
			t.Errorf("Put of %d bytes again: %v, %v, %d raw writes", n, again, err, d.Writes())
		}
		if found, is := s.Find(bytes); found != b || !is || d.Has("stage/1") {
			t.Errorf("Find of %d bytes: %v, %v", n, found, is)
		}
	}
}

// Too many bytes are refused ahead of all else, though a file of theirs lies there.
func TestP122Long(t *testing.T) {
	long := strings.Repeat("x", api.MaxBytes+1)
	for _, files := range []map[string]string{{}, {file(of(long, 1)): long}} {
		d, s := opened(t, files)
		for _, bytes := range []string{long, long + long} {
			for range 2 {
				b, err := s.Put(bytes)
				faulty(t, "Put of too many bytes", err, api.ErrLong, "")
				if b != (api.Blob{}) {
					t.Errorf("Put of too many bytes: %v", b)
				}
				finds(t, "too many bytes", s, files, bytes)
			}
		}
		lies(t, "Put of too many bytes", d, files)
		if d.Writes() != 0 {
			t.Errorf("Put of too many bytes: %d raw writes", d.Writes())
		}
		fine(t, "Restart", d.Restart(0))
		faulty(t, "Put on the disk", d.Put("x", ""), api.ErrDead, "x")
		_, err := s.Put(long)
		faulty(t, "Put of too many bytes on a dead disk", err, api.ErrLong, "")
	}
}

func TestP122Dead(t *testing.T) {
	files := mixed()
	d, s := opened(t, files)
	fine(t, "Restart", d.Restart(0))
	_, err := s.Put("the cut is here")
	faulty(t, "Put, cut", err, api.ErrDead, "stage/1")
	for _, bytes := range []string{"abc", "", "the cut is here", nought} {
		b, err := s.Put(bytes)
		faulty(t, "Put on a dead disk", err, api.ErrDead, "")
		if found, is := s.Find(bytes); b != (api.Blob{}) || found != (api.Blob{}) || is {
			t.Errorf("Put(%q) = %v on a dead disk, Find = %v, %v", bytes, b, found, is)
		}
	}
	lies(t, "a dead disk", d, files)
}

// Texts of one sum are blobs of rising numbers, each of its own.
func TestP122Alike(t *testing.T) {
	for _, end := range []string{"", "end", strings.Repeat("e", 60)} {
		d, s := opened(t, nil)
		files := map[string]string{}
		texts := alike(12, end)
		for range 2 {
			for i, text := range texts {
				b, err := s.Put(text)
				fine(t, "Put", err)
				if want := of(texts[0], uint32(i+1)); b != want {
					t.Errorf("Put of the %d-th text of one sum = %v, want %v", i, b, want)
				}
				files[file(b)] = text
			}
			tells(t, "texts of one sum", s, files)
			lies(t, "texts of one sum", d, files)
		}
	}
}

// The least number that has these bytes is taken; else the least one that is free, wherever the other ones lie.
func TestP122Numbers(t *testing.T) {
	texts := alike(3, "")
	const most = math.MaxUint32
	for _, c := range []struct {
		of    [3][]uint32 // the numbers by which each text lies there
		wants [3]uint32   // the number that Put of it answers
	}{
		{[3][]uint32{}, [3]uint32{1, 1, 1}},
		{[3][]uint32{{1}, {2}, {3}}, [3]uint32{1, 2, 3}},
		{[3][]uint32{{2}, {}, {}}, [3]uint32{2, 1, 1}},
		{[3][]uint32{{1, 3}, {4}, {}}, [3]uint32{1, 4, 2}},
		{[3][]uint32{{3, 2, 1}, {}, {}}, [3]uint32{1, 4, 4}},
		{[3][]uint32{{10, 9}, {2, 100}, {}}, [3]uint32{9, 2, 1}},
		{[3][]uint32{{11, 10}, {100, 20}, {9, 1}}, [3]uint32{10, 20, 1}},
		{[3][]uint32{{most}, {most - 1, 1}, {}}, [3]uint32{most, 1, 2}},
		{[3][]uint32{{1, 2, 3, 4, 5, 6, 7, 8, 9, 10, 12}, {}, {13}}, [3]uint32{1, 11, 13}},
		{[3][]uint32{{1, 2, 3, 4, 5, 6, 7, 8, 9, 10, 11}, {}, {12, 14}}, [3]uint32{1, 13, 12}},
	} {
		files := map[string]string{file(of("abc", 1)): "abc", file(api.Blob{Sum: 1, N: 1}): texts[0], file(api.Blob{Sum: 1, N: 2}): texts[1]}
		for i, numbers := range c.of {
			for _, n := range numbers {
				files[file(of(texts[i], n))] = texts[i]
			}
		}
		for i, n := range c.wants {
			d, s := opened(t, files)
			finds(t, fmt.Sprint(c.of), s, files, texts[i])
			got, err := s.Put(texts[i])
			fine(t, "Put", err)
			if want := of(texts[i], n); got != want {
				t.Errorf("%v: Put of the %d-th text of one sum = %v, want %v", c.of, i, got, want)
			}
			behind := maps.Clone(files)
			behind[file(got)] = texts[i]
			lies(t, "Put", d, behind)
		}
	}
}

// A file with other bytes than its name says, or whose name is not in the one form, is none of the bytes'.
func TestP122Others(t *testing.T) {
	for _, files := range []map[string]string{others(), mixed(), {file(of("abc", 1)): ""}, {file(of("abc", 1)): "abd", file(of("abc", 4)): "xyz"}, {file(of("abc", 1)): "abcd", file(of("abc", 3)): "ab"}, {file(of("xyz", 1)): "abc"}} {
		for _, bytes := range []string{"abc", "", "x", "long", nought, strings.Repeat("x", 100), "other bytes 9"} {
			d, s := opened(t, files)
			tells(t, "other files", s, files, bytes)
			want, writes := puts(files, bytes)
			b, err := s.Put(bytes)
			fine(t, "Put", err)
			if b != want {
				t.Errorf("Put(%q) = %v, want %v", bytes, b, want)
			}
			lies(t, "Put", d, done(files, writes, len(writes)))
		}
	}
}

// What lies staged is written over, what is staged beside it stays till Open.
func TestP122StagedAhead(t *testing.T) {
	d, s := opened(t, nil)
	fine(t, "Put on the disk", d.Put("stage/1", strings.Repeat("old", 50)))
	fine(t, "Put on the disk", d.Put("stage/2", "old"))
	b, err := s.Put("new")
	fine(t, "Put", err)
	lies(t, "Put", d, map[string]string{file(of("new", 1)): "new", "stage/2": "old"})
	if b != of("new", 1) {
		t.Errorf("Put = %v", b)
	}
}

// The disk's error of a full disk is Put's; what is there is found on it.
func TestP122Full(t *testing.T) {
	d, s := opened(t, map[string]string{file(of("abc", 1)): "abc"})
	for i := len(d.Names()); i < api.MaxFiles; i++ {
		fine(t, "Put on the disk", d.Put(fmt.Sprint(i), ""))
	}
	for range 2 {
		b, err := s.Put("xyz")
		faulty(t, "Put on a full disk", err, api.ErrLong, "stage/1")
		if b != (api.Blob{}) || len(d.Names()) != api.MaxFiles || d.Has("stage/1") {
			t.Errorf("Put on a full disk: %v", b)
		}
	}
	if b, err := s.Put("abc"); b != of("abc", 1) || err != nil {
		t.Errorf("Put of what is there, on a full disk: %v, %v", b, err)
	}
	fine(t, "Remove on the disk", d.Remove("2"))
	if b, err := s.Put("xyz"); b != of("xyz", 1) || err != nil {
		t.Errorf("Put of the last file: %v, %v", b, err)
	}
}

func TestP123Examples(t *testing.T) {
	_, s := opened(t, nil)
	_, err := s.Get(api.Blob{N: 1})
	faulty(t, "Get of Sum 0 N 1", err, api.ErrNone, "blob/0000000000000000-1")
	_, err = s.Get(api.Blob{})
	faulty(t, "Get of N 0", err, api.ErrArg, "")
	if l := s.All(); len(l) != 0 {
		t.Errorf("All of nothing = %v", l)
	}
}

func TestP123Get(t *testing.T) {
	files := mixed()
	_, s := opened(t, files)
	for _, b := range blobsOf(files) {
		for _, n := range []uint32{0, 1, b.N - 1, b.N, b.N + 1, math.MaxUint32} {
			for _, sum := range []uint64{b.Sum, b.Sum + 1, b.Sum - 1, 0, math.MaxUint64} {
				gets(t, "mixed files", s, files, api.Blob{Sum: sum, N: n})
			}
		}
	}
}

// Other bytes are told by their sum: any of theirs that is turned, wanting or too many.
func TestP123Spoilt(t *testing.T) {
	for _, bytes := range []string{"abc", "", strings.Repeat("long", 40)} {
		b := of(bytes, 1)
		spoilt := []string{bytes + "\x00", bytes + bytes + "x", "x" + bytes, " " + bytes}
		for i := range len(bytes) {
			turned := []byte(bytes)
			turned[i] ^= 1 << (i % 8)
			spoilt = append(spoilt, string(turned), bytes[:i], bytes[:i]+bytes[i+1:])
		}
		for _, other := range spoilt {
			files := map[string]string{file(b): other}
			if sumOf(other) == b.Sum {
				continue
			}
			d, s := opened(t, files)
			got, err := s.Get(b)
			faulty(t, "Get of other bytes", err, api.ErrBlob, file(b))
			if got != "" {
				t.Errorf("Get of other bytes = %q", got)
			}
			lies(t, "Get of other bytes", d, files)
		}
	}
}

// Of a file whose bytes have the sum these are told, however many blobs have that sum, and though Put did not write it.
func TestP123Alike(t *testing.T) {
	texts := alike(3, "x")
	files := map[string]string{file(of(texts[0], 5)): texts[2], file(of(texts[0], 1)): texts[1]}
	_, s := opened(t, files)
	for n, want := range map[uint32]string{5: texts[2], 1: texts[1]} {
		if got, err := s.Get(of(texts[0], n)); got != want || err != nil {
			t.Errorf("Get of N %d = %q, %v", n, got, err)
		}
	}
}

func TestP123Dead(t *testing.T) {
	files := mixed()
	d, s := opened(t, files)
	fine(t, "Restart", d.Restart(0))
	faulty(t, "Put on the disk", d.Put("x", ""), api.ErrDead, "x")
	if l := s.All(); len(l) != 0 {
		t.Errorf("All of a dead disk = %v", l)
	}
	for _, b := range append(blobsOf(files), of("none", 1)) {
		got, err := s.Get(b)
		faulty(t, "Get on a dead disk", err, api.ErrDead, file(b))
		if got != "" {
			t.Errorf("Get on a dead disk = %q", got)
		}
		_, err = s.Get(api.Blob{Sum: b.Sum})
		faulty(t, "Get of N 0 on a dead disk", err, api.ErrArg, "")
	}
	fine(t, "Restart", d.Restart(-1))
	tells(t, "started again", s, files, "abc")
}

func TestP123All(t *testing.T) {
	files := mixed()
	_, s := opened(t, files)
	got := s.All()
	if !slices.Equal(got, blobsOf(files)) {
		t.Errorf("All = %v, want %v", got, blobsOf(files))
	}
	for i, b := range got {
		if i > 0 && (got[i-1].Sum > b.Sum || got[i-1].Sum == b.Sum && got[i-1].N >= b.N) {
			t.Errorf("All tells %v ahead of %v", got[i-1], b)
		}
	}
	_, s = opened(t, others())
	if got := s.All(); len(got) != 0 {
		t.Errorf("All of no blobs = %v", got)
	}
}

func TestP124Examples(t *testing.T) {
	d, s := opened(t, nil)
	b, err := s.Put("abc")
	fine(t, "Put", err)
	gone, err := s.Keep()
	fine(t, "Keep", err)
	if !slices.Equal(gone, []api.Blob{b}) || len(s.All()) != 0 {
		t.Errorf("Keep() = %v, All = %v", gone, s.All())
	}
	lies(t, "Keep", d, nil)
}

// Just the blobs that are not named go, in order; files that are no blobs' stay.
func TestP124Keep(t *testing.T) {
	files := mixed()
	all := blobsOf(files)
	reversed := slices.Clone(all)
	slices.Reverse(reversed)
	lists := [][]api.Blob{nil, {}, all, reversed, all[:1], all[1:], all[len(all)-1:], {all[3], all[3], all[0], all[3]}, {{}, {Sum: 7}, {Sum: 7, N: 3}, {Sum: 8, N: 1}, {N: 1}}, append(slices.Clone(all[2:5]), of("none", 1))}
	for i := range all {
		lists = append(lists, all[i:i+1], slices.Concat(all[:i], all[i+1:]))
	}
	for _, l := range lists {
		want, writes := keeps(files, l...)
		d, s := opened(t, files)
		fine(t, "Restart", d.Restart(len(writes)))
		got, err := s.Keep(l...)
		fine(t, "Keep", err)
		behind := done(files, writes, len(writes))
		if !slices.Equal(got, want) || d.Writes() != len(writes) {
			t.Errorf("Keep(%v) = %v, want %v", l, got, want)
		}
		lies(t, "Keep", d, behind)
		tells(t, "Keep", s, behind, "abc")
		got, err = s.Keep(l...)
		fine(t, "Keep again", err)
		if len(got) != 0 || d.Dead() {
			t.Errorf("Keep(%v) again = %v", l, got)
		}
	}
}

func TestP124Dead(t *testing.T) {
	for _, files := range []map[string]string{{}, mixed()} {
		d, s := opened(t, files)
		fine(t, "Restart", d.Restart(0))
		faulty(t, "Put on the disk", d.Put("x", ""), api.ErrDead, "x")
		for _, l := range [][]api.Blob{nil, blobsOf(files), {of("abc", 2)}} {
			gone, err := s.Keep(l...)
			faulty(t, "Keep on a dead disk", err, api.ErrDead, "")
			if len(gone) != 0 {
				t.Errorf("Keep on a dead disk = %v", gone)
			}
		}
		lies(t, "Keep on a dead disk", d, files)
	}
}
