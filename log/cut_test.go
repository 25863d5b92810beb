package log_test

import (
	"errors"
	"math/rand/v2"
	"slices"
	"strings"
	"testing"

	"yankline/api"
	"yankline/disk"
	"yankline/log"
)

// adds appends payloads up to the first that is cut: which are in, and which one was cut, if one was.
func adds(t *testing.T, l *log.Log, payloads []string) (in, cut []string) {
	t.Helper()
	for i, p := range payloads {
		switch err := l.Append(p); {
		case err == nil:
			in = append(in, p)
		case errors.Is(err, api.ErrDead):
			faulty(t, "Append behind a cut", l.Append(p), api.ErrState, "", -1)
			return in, payloads[i : i+1]
		default:
			t.Fatalf("Append: %v", err)
		}
	}
	return in, nil
}

// recovered holds a log that was opened behind a cut: all that is in, and at most the one that was cut.
func recovered(t *testing.T, d *disk.Disk, l *log.Log, in, cut []string) []string {
	t.Helper()
	got := l.From(0)
	if !slices.Equal(got, in) && !slices.Equal(got, slices.Concat(in, cut)) {
		t.Errorf("%d records, where %d are in", len(got), len(in))
	}
	tells(t, "behind a cut", l, got, false)
	on, err := log.Open(d.Copy())
	fine(t, "Open of a copy", err)
	tells(t, "opened again", on, got, false)
	return got
}

// reopened starts a disk again and opens it, with that cut ahead, and as many further ones as it takes.
func reopened(t *testing.T, d *disk.Disk, cut int) *log.Log {
	t.Helper()
	for {
		fine(t, "Restart", d.Restart(cut))
		l, err := log.Open(d)
		if err == nil {
			fine(t, "Restart", d.Restart(-1))
			return l
		}
		var f *api.Fault
		if !errors.As(err, &f) || f.Code != api.ErrDead || l != nil || !d.Dead() {
			t.Fatalf("Open behind a cut: %v", err)
		}
		cut++
	}
}

// ended holds the files of a log that was cut no more.
func ended(t *testing.T, d *disk.Disk, want []string) {
	t.Helper()
	got := filesOf(want)
	if len(want)%64 == 0 && d.Has(file(len(want)/64+1)) {
		got[file(len(want)/64+1)] = "" // of which a cut has left the first raw write
	}
	lies(t, "at the end", d, got)
}

// The power is lost at each raw write of a script that goes on over a file's end, in each Open behind, and once more.
func TestP54EachCutTwice(t *testing.T) {
	ahead := some(0, 61)
	then := []string{"", strings.Repeat("x", 90), "b", strings.Repeat("y", 20), strings.Repeat("z", 21), "c", strings.Repeat("w", 52)}
	base := laid(t, -1, filesOf(ahead))
	total := 0
	for _, p := range then {
		total += (len(p) + 12 + 31) / 32
	}
	for first := range total + 1 {
		for second := range total + 2 {
			for inOpen := range 2 {
				d := base.Copy()
				l := reopened(t, d, 0)
				fine(t, "Restart", d.Restart(first))
				in, cut := adds(t, l, then)
				if (first < total) != (cut != nil) {
					t.Fatalf("cut %d of %d raw writes: %d are in", first, total, len(in))
				}
				l = reopened(t, d, inOpen)
				got := recovered(t, d, l, slices.Concat(ahead, in), cut)
				fine(t, "Restart", d.Restart(second))
				in, cut = adds(t, l, then)
				l = reopened(t, d, inOpen)
				got = recovered(t, d, l, slices.Concat(got, in), cut)
				in, _ = adds(t, l, []string{"last"})
				ended(t, d, append(got, in...))
			}
		}
	}
}

// Long scripts with cuts anywhere, in Open too.
func TestP54Scripts(t *testing.T) {
	for seed := range uint64(80) {
		r := rand.New(rand.NewPCG(seed, 5))
		d := disk.New(-1)
		var want []string
		for range 12 {
			l := reopened(t, d, r.IntN(3))
			tells(t, "opened", l, want, false)
			fine(t, "Restart", d.Restart(r.IntN(150)))
			payloads := some(len(want), 40)
			if r.IntN(4) == 0 {
				payloads[r.IntN(40)] = strings.Repeat("long", r.IntN(1500))
			}
			in, cut := adds(t, l, payloads)
			l = reopened(t, d, r.IntN(3))
			want = recovered(t, d, l, append(want, in...), cut)
		}
		ended(t, d, want)
	}
}
