package path_test

import (
	"math"
	"regexp"
	"strconv"
	"strings"
	"testing"

	"yankline/api"
	"yankline/path"
)

// kinds are those that there are.
var kinds = []api.PathKind{api.LogPath, api.BlobPath, api.PagePath, api.StagePath}

var (
	logName   = regexp.MustCompile(`^log/([0-9]{8})$`)
	blobName  = regexp.MustCompile(`^blob/([0-9a-f]{16})-([1-9][0-9]*)$`)
	pageName  = regexp.MustCompile(`^page/([a-z0-9]+(?:-[a-z0-9]+)*)$`)
	stageName = regexp.MustCompile(`^stage/([1-9][0-9]*)$`)
)

// model is what a file's name says, as the chapter's words have it, and whether s is one.
func model(s string) (api.Path, bool) {
	// $ holds at the very end alone: without the flag m it is not ahead of a line's end
	if m := logName.FindStringSubmatch(s); m != nil && m[1] != "00000000" {
		n, err := strconv.Atoi(m[1])
		return api.Path{Kind: api.LogPath, N: n}, err == nil
	}
	if m := blobName.FindStringSubmatch(s); m != nil {
		hash, err := strconv.ParseUint(m[1], 16, 64)
		n, beyond := strconv.ParseUint(m[2], 10, 32)
		if err == nil && beyond == nil {
			return api.Path{Kind: api.BlobPath, Blob: api.Blob{Sum: hash, N: uint32(n)}}, true
		}
	}
	if m := pageName.FindStringSubmatch(s); m != nil && len(m[1]) <= 64 {
		return api.Path{Kind: api.PagePath, Name: m[1]}, true
	}
	if m := stageName.FindStringSubmatch(s); m != nil {
		if n, err := strconv.ParseInt(m[1], 10, 32); err == nil {
			return api.Path{Kind: api.StagePath, N: int(n)}, true
		}
	}
	return api.Path{}, false
}

// written is the name that the call for a path's kind answers.
func written(p api.Path) (string, api.Errno) {
	switch p.Kind {
	case api.LogPath:
		return path.Log(p.N)
	case api.BlobPath:
		return path.Blob(p.Blob)
	case api.PagePath:
		return path.Page(p.Name)
	case api.StagePath:
		return path.Stage(p.N)
	}
	return "", api.ErrPath
}

// read holds Read of s against the model, and what it says against what is written of it; it is whether s is a name.
func read(t *testing.T, s string) bool {
	t.Helper()
	want, is := model(s)
	got, e := path.Read(s)
	if got != want || (e == api.OK) != is || !is && e != api.ErrPath {
		t.Errorf("Read(%.80q) = %+v, %v, want %+v, %t", s, got, e, want, is)
	}
	if is {
		if back, e := written(got); back != s || e != api.OK {
			t.Errorf("Read(%q) is %+v, whose name is %q, %v", s, got, back, e)
		}
	}
	return is
}

// refused holds that s is no name, and that nothing is told beside the error.
func refused(t *testing.T, s string) {
	t.Helper()
	if p, e := path.Read(s); p != (api.Path{}) || e != api.ErrPath {
		t.Errorf("Read(%.80q) = %+v, %v, want nothing, ErrPath", s, p, e)
	}
}

// numbers are at the edges of what numbers hold, and of how many digits they have.
func numbers() []int {
	l := []int{0, 1, 2, 3, 7, 12, 255, 12345678, 98765432, 99999998, 99999999, 100000000, 100000001, math.MaxInt32 - 1, math.MaxInt32, math.MaxInt32 + 1, math.MaxUint32, math.MaxUint32 + 1, math.MaxUint32 + 2, math.MaxInt}
	for ten := 10; ten < 1e15; ten *= 10 {
		l = append(l, ten-1, ten, ten+1, ten/10*7)
	}
	for _, n := range l[:len(l):len(l)] {
		l = append(l, -n)
	}
	return append(l, math.MinInt)
}

// blobs are of telling sums, and of each telling number.
func blobs() []api.Blob {
	var l []api.Blob
	for _, hash := range []uint64{0, 1, 15, 16, 255, 0x0123456789abcdef, 0xfedcba9876543210, 1<<63 - 1, 1 << 63, math.MaxUint64, 14695981039346656037} {
		for _, n := range []uint32{0, 1, 2, 9, 10, 11, 99, 100, 65535, 65536, 1<<31 - 1, 1 << 31, 1000000000, 4294967290, math.MaxUint32} {
			l = append(l, api.Blob{Sum: hash, N: n})
		}
	}
	return l
}

// forms are packages' names in their one form.
func forms() []string {
	return []string{
		"a", "z", "0", "9", "foo", "foo-bar", "foobar", "a-b-c", "0-0", "42", "00000001", "1", "a1", "1a", "0000000000000000-1", "log", "page", "blob", "stage", "yankline",
		"abcdefghijklmnopqrstuvwxyz", "0123456789", strings.Repeat("a", 63), strings.Repeat("a", 64), strings.Repeat("a-", 31) + "ab", "a-" + strings.Repeat("0", 62),
	}
}

// unformed are texts that are no package's name in its one form: raw names of other forms, and no names.
func unformed() []string {
	return []string{
		"", "Foo", "foO", "A", "Z", "foo_bar", "foo.bar", "a--b", "a-.b", "a---b", "-", "--", "-a", "a-", ".", "..", "_", "a/b", "/", "/a", "a/", "a b", " a", "a ", "a\n", "\na", "a\x00", "\x00", "a@", "a`", "a{", "a:", "a*",
		"ä", "aäb", "\u212a", "a\u017f", "\uff41", "a\u2010b", "\xff", "a\xff", "a\x80b", "\ufffd", "\u00e9",
		strings.Repeat("a", 65), "a" + strings.Repeat("-", 62) + "b", strings.Repeat("a-", 32) + "a", "-" + strings.Repeat("a", 63), strings.Repeat("a", 63) + "-", strings.Repeat("ä", 32), strings.Repeat("a", 1<<20), strings.Repeat("-", 1<<20), strings.Repeat("\xff", 1<<20),
	}
}

// paths are what names of all kinds say.
func paths() []api.Path {
	var l []api.Path
	for _, n := range numbers() {
		if 1 <= n && n <= 99999999 {
			l = append(l, api.Path{Kind: api.LogPath, N: n})
		}
		if 1 <= n && n <= math.MaxInt32 {
			l = append(l, api.Path{Kind: api.StagePath, N: n})
		}
	}
	for _, b := range blobs() {
		if b.N != 0 {
			l = append(l, api.Path{Kind: api.BlobPath, Blob: b})
		}
	}
	for _, form := range forms() {
		l = append(l, api.Path{Kind: api.PagePath, Name: form})
	}
	return l
}

// nones are texts that are no names, each by something of its own.
func nones() []string {
	l := []string{
		"", "/", "//", "log", "blob", "page", "stage", "log/", "blob/", "page/", "stage/", "a", "00000001", "/00000001", "foo", "12",
		"log/1", "log/0", "log/00000000", "log/0000001", "log/000000001", "log/100000000", "log/000000010", "log/0000000x", "log/x0000001", "log/+0000001", "log/-0000001", "log/ 0000001", "log/0000001 ", "log/00000001 ", "log/00000001\n", "log/00000001\x00", "log/0000000a", "log/0x000001", "log/0000_001", "log/0000000:", "log/0000000/", "log/:0000001",
		"log/4294967297", "log/18446744073709551617", "log//0000001", "log//00000001", "/log/00000001", "x/log/00000001", "log/00000001/", "log/00000001/x", "Log/00000001", "LOG/00000001", "logs/00000001", "lo/00000001", "log 00000001", "log00000001", "log\\00000001", " log/00000001", "log /00000001", "\xfflog/00000001", "log/\uff10\uff10", "log/0000000\xff", "log/00000\u0661",
		"blob/-", "blob/-1", "blob/1", "blob/0000000000000000", "blob/0000000000000000-", "blob/0000000000000000-0", "blob/0000000000000000-01", "blob/0000000000000000-00", "blob/0000000000000000-+1", "blob/0000000000000000--1", "blob/0000000000000000-1-", "blob/0000000000000000-1-1", "blob/0000000000000000- 1", "blob/0000000000000000-1 ", "blob/0000000000000000-1\n", "blob/0000000000000000-1/", "blob/0000000000000000-x", "blob/0000000000000000-a", "blob/0000000000000000-0x1",
		"blob/0000000000000000-4294967296", "blob/0000000000000000-4294967297", "blob/0000000000000000-9999999999", "blob/0000000000000000-18446744073709551617", "blob/0000000000000000-42949672970", "blob/0000000000000000-1" + strings.Repeat("0", 1<<20),
		"blob/00000000000000FF-2", "blob/ff-2", "blob/000000000000000-1", "blob/00000000000000000-1", "blob/000000000000000g-1", "blob/00000000000000ff2", "blob/00000000000000ff_2", "blob/00000000000000ff/2", "blob/-00000000000000f-1", "blob//0000000000000000-1", "Blob/0000000000000000-1", "blobs/0000000000000000-1", "blo/0000000000000000-1", "/blob/0000000000000000-1", "blob0000000000000000-1",
		"pages/a", "pag/a", "Page/a", "page//a", "page/a/", "/page/a", "page a", "pagea", "x/page/a", "page/page/a", "page/log/00000001",
		"stage/0", "stage/01", "stage/00", "stage/001", "stage/-1", "stage/+1", "stage/ 1", "stage/1 ", "stage/1\n", "stage/x", "stage/1x", "stage/x1", "stage/1/", "stage//1", "stage/1.0", "stage/1_0", "stage/0x1", "stage/1e1", "stage/\uff11", "stage/1\xff", "stage/:", "stage/1:", "stage/1/2",
		"stage/2147483648", "stage/2147483649", "stage/4294967295", "stage/4294967297", "stage/9999999999", "stage/18446744073709551616", "stage/18446744073709551617", "stage/36893488147419103233", "stage/1" + strings.Repeat("0", 1<<20), "stage/" + strings.Repeat("0", 1<<20) + "1",
		"Stage/1", "stages/1", "stag/1", "/stage/1", "stage1", "stage-1", "stage/stage/1",
		strings.Repeat("log/", 1<<18), strings.Repeat("/", 1<<20), strings.Repeat("a", 1<<20), strings.Repeat("\xff", 1<<20),
	}
	for _, s := range unformed() {
		l = append(l, "page/"+s)
	}
	return l
}
