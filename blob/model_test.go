package blob_test

import (
	"cmp"
	"errors"
	"fmt"
	"hash/fnv"
	"maps"
	"math/rand/v2"
	"regexp"
	"slices"
	"strconv"
	"strings"
	"testing"

	"yankline/api"
	"yankline/blob"
	"yankline/disk"
)

// nought is a text whose sum is 0; so is that of each text that has noughts behind it.
const nought = "\xd5\x6b\xb9\x53\x42\x87\x08\x36"

// alike are unlike texts of one sum, which the end is behind.
func alike(n int, end string) []string {
	l := make([]string, n)
	for i := range l {
		l[i] = nought + strings.Repeat("\x00", i) + end
	}
	return l
}

// faulty holds that err is the fault of that number and of that file, at no place and with nothing under it.
func faulty(t *testing.T, what string, err error, want api.Errno, file string) {
	t.Helper()
	var f *api.Fault
	if !errors.As(err, &f) || *f != (api.Fault{Code: want, What: file, At: -1}) || !errors.Is(err, want) {
		t.Errorf("%s: %.200v, want %v of %q", what, err, want, file)
	}
}

// fine holds that a call answered no error.
func fine(t *testing.T, what string, err error) {
	t.Helper()
	if err != nil {
		t.Errorf("%s: %.200v", what, err)
	}
}

// sumOf is a text's sum, made apart from the program.
func sumOf(bytes string) uint64 {
	h := fnv.New64a()
	h.Write([]byte(bytes))
	return h.Sum64()
}

// of is the n-th blob of the text's sum.
func of(bytes string, n uint32) api.Blob { return api.Blob{Sum: sumOf(bytes), N: n} }

// file is the name of a blob's file.
func file(b api.Blob) string { return fmt.Sprintf("blob/%016x-%d", b.Sum, b.N) }

var blobFile = regexp.MustCompile(`^blob/([0-9a-f]{16})-([1-9][0-9]*)$`)

// blobsOf are the blobs among the files, in their order.
func blobsOf(files map[string]string) []api.Blob {
	var l []api.Blob
	for name := range files {
		m := blobFile.FindStringSubmatch(name)
		if m == nil {
			continue
		}
		sum, err := strconv.ParseUint(m[1], 16, 64)
		n, too := strconv.ParseUint(m[2], 10, 32)
		if err == nil && too == nil {
			l = append(l, api.Blob{Sum: sum, N: uint32(n)})
		}
	}
	slices.SortFunc(l, func(a, b api.Blob) int {
		if a.Sum != b.Sum {
			return cmp.Compare(a.Sum, b.Sum)
		}
		return cmp.Compare(a.N, b.N)
	})
	return l
}

// lying is the blob of the bytes among the files, and whether there is one.
func lying(files map[string]string, bytes string) (api.Blob, bool) {
	for _, b := range blobsOf(files) {
		if b.Sum == sumOf(bytes) && files[file(b)] == bytes {
			return b, true
		}
	}
	return api.Blob{}, false
}

// free is the first blob of the bytes' sum of which there is no file.
func free(files map[string]string, bytes string) api.Blob {
	b := of(bytes, 1)
	for {
		if _, is := files[file(b)]; !is {
			return b
		}
		b.N++
	}
}

// write is a raw write: what it does, and the file of the fault where it is not done.
type write struct {
	file string
	do   func(files map[string]string)
}

// opens are the raw writes of Open.
func opens(files map[string]string) []write {
	var l []write
	for _, name := range slices.Sorted(maps.Keys(files)) {
		number, is := strings.CutPrefix(name, "stage/")
		n, err := strconv.ParseUint(number, 10, 31)
		if is && err == nil && n > 0 && strconv.FormatUint(n, 10) == number {
			l = append(l, removes(name))
		}
	}
	return l
}

func removes(name string) write {
	return write{name, func(files map[string]string) { delete(files, name) }}
}

// puts are the raw writes of Put, and the blob that it answers behind them.
func puts(files map[string]string, bytes string) (api.Blob, []write) {
	if b, is := lying(files, bytes); is {
		return b, nil
	}
	b := free(files, bytes)
	l := []write{{"stage/1", func(files map[string]string) { files["stage/1"] = "" }}}
	for piece := range slices.Chunk([]byte(bytes), 32) {
		l = append(l, write{"stage/1", func(files map[string]string) { files["stage/1"] += string(piece) }})
	}
	return b, append(l, write{"stage/1", func(files map[string]string) {
		files[file(b)] = files["stage/1"]
		delete(files, "stage/1")
	}})
}

// keeps are the raw writes of Keep, and the blob that each takes away.
func keeps(files map[string]string, kept ...api.Blob) ([]api.Blob, []write) {
	var gone []api.Blob
	var l []write
	for _, b := range blobsOf(files) {
		if !slices.Contains(kept, b) {
			gone = append(gone, b)
			l = append(l, removes(file(b)))
		}
	}
	return gone, l
}

// done are the files behind the first n raw writes.
func done(files map[string]string, l []write, n int) map[string]string {
	behind := maps.Clone(files)
	for _, w := range l[:n] {
		w.do(behind)
	}
	return behind
}

// laid is a disk with those files and that cut.
func laid(t *testing.T, cut int, files map[string]string) *disk.Disk {
	t.Helper()
	d := disk.New(-1)
	for name, bytes := range files {
		fine(t, "Put on the disk", d.Put(name, bytes))
	}
	fine(t, "Restart", d.Restart(cut))
	return d
}

// lies holds that a disk has those files, dead or not.
func lies(t *testing.T, what string, d *disk.Disk, files map[string]string) {
	t.Helper()
	if !disk.Same(d, laid(t, -1, files)) {
		c := d.Copy()
		fine(t, what, c.Restart(-1))
		t.Errorf("%s: the disk has the files %.400q, want %.400q", what, c.Names(), slices.Sorted(maps.Keys(files)))
	}
}

// opened is a store on a disk with those files, of which none is staged.
func opened(t *testing.T, files map[string]string) (*disk.Disk, *blob.Store) {
	t.Helper()
	d := laid(t, -1, files)
	s, err := blob.Open(d)
	if err != nil {
		t.Fatalf("Open: %v", err)
	}
	return d, s
}

// tells holds all that a store tells of a disk with those files; of each of the texts, too.
func tells(t *testing.T, what string, s *blob.Store, files map[string]string, texts ...string) {
	t.Helper()
	all := blobsOf(files)
	if got := s.All(); !slices.Equal(got, all) {
		t.Errorf("%s: All = %v, want %v", what, got, all)
	}
	for _, b := range all {
		gets(t, what, s, files, b)
		texts = append(texts, files[file(b)])
	}
	for _, text := range texts {
		finds(t, what, s, files, text)
		for n := range uint32(4) {
			gets(t, what, s, files, of(text, n))
		}
	}
}

// gets holds what a store answers to Get.
func gets(t *testing.T, what string, s *blob.Store, files map[string]string, b api.Blob) {
	t.Helper()
	got, err := s.Get(b)
	held, is := files[file(b)]
	want := api.OK
	switch {
	case b.N == 0:
		faulty(t, what+", Get of N 0", err, api.ErrArg, "")
		want = api.ErrArg
	case !is:
		faulty(t, what+", Get of none", err, api.ErrNone, file(b))
		want = api.ErrNone
	case sumOf(held) != b.Sum:
		faulty(t, what+", Get of other bytes", err, api.ErrBlob, file(b))
		want = api.ErrBlob
	default:
		fine(t, what+", Get", err)
	}
	if want != api.OK {
		held = ""
	}
	if got != held {
		t.Errorf("%s: Get(%v) = %.100q, want %.100q and %v", what, b, got, held, want)
	}
}

// finds holds what a store answers to Find.
func finds(t *testing.T, what string, s *blob.Store, files map[string]string, bytes string) {
	t.Helper()
	want, is := lying(files, bytes)
	if len(bytes) > api.MaxBytes {
		want, is = api.Blob{}, false
	}
	if got, found := s.Find(bytes); got != want || found != is {
		t.Errorf("%s: Find(%.60q) = %v, %v, want %v, %v", what, bytes, got, found, want, is)
	}
}

// run is a store with its disk beside what the model has of both.
type run struct {
	t     *testing.T
	d     *disk.Disk
	s     *blob.Store
	files map[string]string
	left  int // raw writes up to the cut; below 0: no cut
	r     *rand.Rand
}

// spent does raw writes in the model, up to the cut; whether that is ahead of their end, and how many are done.
func (r *run) spent(l []write) (int, bool) {
	n := len(l)
	if r.left >= 0 {
		n = min(n, r.left)
		r.left -= n
	}
	r.files = done(r.files, l, n)
	return n, n < len(l)
}

// opens opens the disk anew, with a cut at some raw write, and as often as it takes.
func (r *run) opens() {
	r.t.Helper()
	for {
		r.left = r.r.IntN(4) - 1
		fine(r.t, "Restart", r.d.Restart(r.left))
		l := opens(r.files)
		n, cut := r.spent(l)
		s, err := blob.Open(r.d)
		if !cut {
			fine(r.t, "Open", err)
			r.s = s
			return
		}
		faulty(r.t, "Open, cut", err, api.ErrDead, l[n].file)
		if s != nil {
			r.t.Error("Open, cut: a store beside the error")
		}
	}
}

// power gives the disk another cut, without opening it: what is staged stays.
func (r *run) power(cut int) {
	r.left = cut
	fine(r.t, "Restart", r.d.Restart(cut))
}

// puts is whether the power is still there.
func (r *run) puts(bytes string) bool {
	r.t.Helper()
	want, l := puts(r.files, bytes)
	n, cut := r.spent(l)
	got, err := r.s.Put(bytes)
	if cut {
		faulty(r.t, "Put, cut", err, api.ErrDead, l[n].file)
		want = api.Blob{}
	} else {
		fine(r.t, "Put", err)
	}
	if got != want {
		r.t.Errorf("Put(%.60q) = %v, want %v", bytes, got, want)
	}
	return !cut
}

// keeps is whether the power is still there.
func (r *run) keeps(kept ...api.Blob) bool {
	r.t.Helper()
	want, l := keeps(r.files, kept...)
	n, cut := r.spent(l)
	got, err := r.s.Keep(kept...)
	if cut {
		faulty(r.t, "Keep, cut", err, api.ErrDead, l[n].file)
		want = want[:n]
	} else {
		fine(r.t, "Keep", err)
	}
	if !slices.Equal(got, want) {
		r.t.Errorf("Keep(%v) = %v, want %v", kept, got, want)
	}
	return !cut
}
