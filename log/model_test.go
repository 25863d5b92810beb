package log_test

import (
	"encoding/binary"
	"errors"
	"fmt"
	"hash/fnv"
	"iter"
	"maps"
	"regexp"
	"slices"
	"strconv"
	"strings"
	"testing"

	"yankline/api"
	"yankline/disk"
	"yankline/log"
)

// faulty holds that err is the fault of that number, of that file and at that place, with nothing under it.
func faulty(t *testing.T, what string, err error, want api.Errno, file string, at int) {
	t.Helper()
	var f *api.Fault
	if !errors.As(err, &f) || *f != (api.Fault{Code: want, What: file, At: at}) || !errors.Is(err, want) {
		t.Errorf("%s: %.200v, want %v of %q at %d", what, err, want, file, at)
	}
}

// fine holds that a call answered no error.
func fine(t *testing.T, what string, err error) {
	t.Helper()
	if err != nil {
		t.Errorf("%s: %.200v", what, err)
	}
}

// file is the name of file n.
func file(n int) string { return fmt.Sprintf("log/%08d", n) }

// record is a record, made apart from the program.
func record(payload string) string {
	length := binary.BigEndian.AppendUint32(nil, uint32(len(payload)))
	h := fnv.New64a()
	h.Write(length)
	h.Write([]byte(payload))
	return string(binary.BigEndian.AppendUint64(length, h.Sum64())) + payload
}

// records are the payloads' records, one behind the other.
func records(payloads ...string) string {
	var b strings.Builder
	for _, p := range payloads {
		b.WriteString(record(p))
	}
	return b.String()
}

// some are n payloads, all unlike, of lengths from none on, short ones mostly; begin is where they begin in the list of all of them.
func some(begin, n int) []string {
	l := make([]string, n)
	for i := range l {
		at := begin + i
		switch {
		case at%9 == 4:
			l[i] = strconv.Itoa(at) + strings.Repeat("\x00", at%83)
		case at == 7:
			l[i] = ""
		default:
			l[i] = strconv.Itoa(at)
		}
	}
	return l
}

// filesOf are the files of a log of such payloads.
func filesOf(payloads []string) map[string]string {
	files := map[string]string{}
	for i, p := range payloads {
		files[file(i/64+1)] += record(p)
	}
	return files
}

// laid is a disk with those files, started again with that cut.
func laid(t *testing.T, cut int, files map[string]string) *disk.Disk {
	t.Helper()
	d := disk.New(-1)
	for name, bytes := range files {
		fine(t, "Put", d.Put(name, bytes))
	}
	fine(t, "Restart", d.Restart(cut))
	return d
}

// lies holds that a disk, dead or not, has just those files.
func lies(t *testing.T, what string, d *disk.Disk, want map[string]string) {
	t.Helper()
	woken := d.Copy()
	fine(t, what, woken.Restart(-1))
	if disk.Same(woken, laid(t, -1, want)) {
		return
	}
	t.Errorf("%s: the files %.300q, want %.300q", what, woken.Names(), slices.Sorted(maps.Keys(want)))
	for _, name := range woken.Names() {
		if got, _ := woken.Read(name); got != want[name] {
			t.Errorf("%s: %q has %d bytes, want %d", what, name, len(got), len(want[name]))
		}
	}
}

// gone is what an iterator tells, which must tell the places in order, from 0 on.
func gone(t *testing.T, all iter.Seq2[int, string]) []string {
	t.Helper()
	var l []string
	for i, p := range all {
		if i != len(l) {
			t.Errorf("All: the place %d behind %d payloads", i, len(l))
		}
		l = append(l, p)
	}
	return l
}

// tells holds what a log tells, by all of its calls.
func tells(t *testing.T, what string, l *log.Log, want []string, broken bool) {
	t.Helper()
	if l == nil {
		t.Errorf("%s: no log", what)
		return
	}
	if l.Len() != len(want) || l.Broken() != broken {
		t.Errorf("%s: Len %d, Broken %v, want %d, %v", what, l.Len(), l.Broken(), len(want), broken)
	}
	if full := (len(want) + 63) / 64; l.Files() != full {
		t.Errorf("%s: Files %d, want %d", what, l.Files(), full)
	}
	for i, p := range want {
		if got, err := l.At(i); got != p || err != nil {
			t.Errorf("%s: At(%d) = %.40q, %v, want %.40q", what, i, got, err, p)
		}
	}
	for _, i := range []int{-1, len(want), len(want) + 1} {
		got, err := l.At(i)
		faulty(t, what+": At", err, api.ErrArg, "", i)
		if got != "" {
			t.Errorf("%s: At(%d) tells %.40q beside its error", what, i, got)
		}
	}
	for _, i := range []int{-1, 0, 1, len(want) / 2, len(want) - 1, len(want), len(want) + 1} {
		rest := want[min(max(i, 0), len(want)):]
		if got := l.From(i); !slices.Equal(got, rest) {
			t.Errorf("%s: From(%d) is %d payloads, want %d: %.100q, want %.100q", what, i, len(got), len(rest), got, rest)
		}
	}
	if got := gone(t, l.All()); !slices.Equal(got, want) {
		t.Errorf("%s: All tells %d payloads, want %d", what, len(got), len(want))
	}
}

// write is a raw write: what it is, and how it is done to files.
type write struct {
	file string // of the disk's error, where the power is lost by it
	do   func(files map[string]string)
}

// whole is how many records stand whole at the front, how many bytes they have, and which payloads.
func whole(text string) (payloads []string, used int) {
	for len(text)-used >= 12 {
		n := int(binary.BigEndian.Uint32([]byte(text[used:])))
		if n > 131072 || n > len(text)-used-12 {
			break
		}
		p := text[used+12 : used+12+n]
		if record(p) != text[used:used+12+n] {
			break
		}
		payloads = append(payloads, p)
		used += 12 + n
	}
	return payloads, used
}

// numbered is what a file's name is like; 0 is no file's number, but is above none.
var numbered = regexp.MustCompile(`\Alog/[0-9]{8}\z`)

// model is what a disk with those files has of a log, and the raw writes that make it clean, as the chapter's words say them.
func model(files map[string]string) (payloads []string, writes []write) {
	last, stay := 1, 0
	for ; ; last++ {
		text, is := files[file(last)]
		l, used := whole(text)
		first := l[:min(64, len(l))]
		payloads = append(payloads, first...)
		stay = len(records(first...))
		if !is || len(l) != 64 || used != len(text) {
			break
		}
	}
	for _, name := range slices.Sorted(maps.Keys(files)) {
		if !numbered.MatchString(name) {
			continue
		}
		if n, _ := strconv.Atoi(name[4:]); n > last {
			writes = append(writes, write{name, func(files map[string]string) { delete(files, name) }})
		}
	}
	if text := files[file(last)]; len(text) > stay {
		writes = append(writes, write{file(last), func(files map[string]string) { files[file(last)] = text[:stay] }})
	}
	return payloads, writes
}
