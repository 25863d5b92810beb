package blob_test

import (
	"math/rand/v2"
	"slices"
	"strings"
	"testing"

	"yankline/api"
	"yankline/blob"
)

// staged are the mixed files with some more that are staged.
func staged() map[string]string {
	files := mixed()
	for _, n := range []string{"1", "2", "10", "11", "2147483647"} {
		files["stage/"+n] = "half " + n
	}
	return files
}

// The power is lost in each raw write of Open: what was removed by then stays so, and the next Open does the rest.
func TestP121Cut(t *testing.T) {
	files := staged()
	l := opens(files)
	for cut, w := range l {
		d := laid(t, cut, files)
		s, err := blob.Open(d)
		faulty(t, "Open, cut", err, api.ErrDead, w.file)
		if s != nil || !d.Dead() {
			t.Error("Open, cut: a store beside the error")
		}
		half := done(files, l, cut)
		lies(t, "Open, cut", d, half)
		fine(t, "Restart", d.Restart(len(l)-cut))
		s, err = blob.Open(d)
		fine(t, "Open again", err)
		tells(t, "Open again", s, mixed(), "abc")
		lies(t, "Open again", d, mixed())
	}
}

// The power is lost in each raw write of Put: the blob is there whole or not at all, and what was staged goes at Open.
func TestP125CutPut(t *testing.T) {
	files := mixed()
	for _, bytes := range []string{"", "x", "xyz", strings.Repeat("y", 32), strings.Repeat("z", 200), nought + "\x00\x00\x00\x00\x00", "long"} {
		want, l := puts(files, bytes)
		for cut, w := range l {
			d, s := opened(t, files)
			fine(t, "Restart", d.Restart(cut))
			b, err := s.Put(bytes)
			faulty(t, "Put, cut", err, api.ErrDead, w.file)
			if b != (api.Blob{}) {
				t.Errorf("Put, cut: %v", b)
			}
			half := done(files, l, cut)
			lies(t, "Put, cut", d, half)
			again := d.Copy()
			fine(t, "Restart", again.Restart(-1))
			s, err = blob.Open(again)
			fine(t, "Open", err)
			lies(t, "Open behind a cut in Put", again, files)
			tells(t, "Open behind a cut in Put", s, files, bytes)
			fine(t, "Restart", d.Restart(-1))
			s, err = blob.Open(d)
			fine(t, "Open", err)
			b, err = s.Put(bytes)
			fine(t, "Put again", err)
			if b != want {
				t.Errorf("Put behind a cut = %v, want %v", b, want)
			}
			lies(t, "Put again", d, done(files, l, len(l)))
		}
	}
}

// The same store goes on when the disk is started again, though it is not opened: what was staged is written over.
func TestP125CutPutGoesOn(t *testing.T) {
	long := strings.Repeat("long", 30)
	_, l := puts(nil, long)
	for cut := range l {
		d, s := opened(t, nil)
		fine(t, "Restart", d.Restart(cut))
		_, err := s.Put(long)
		faulty(t, "Put, cut", err, api.ErrDead, "stage/1")
		fine(t, "Restart", d.Restart(-1))
		b, err := s.Put("abc")
		fine(t, "Put", err)
		if got, err := s.Get(b); got != "abc" || err != nil {
			t.Errorf("Get = %q, %v", got, err)
		}
		lies(t, "Put behind a cut", d, map[string]string{file(of("abc", 1)): "abc"})
	}
}

// The power is lost in each raw write of Keep: told is what was removed by then.
func TestP124Cut(t *testing.T) {
	files := mixed()
	all := blobsOf(files)
	for _, kept := range [][]api.Blob{nil, all[:3], {all[1], all[4], all[len(all)-1]}, all[1:]} {
		want, l := keeps(files, kept...)
		for cut, w := range l {
			d, s := opened(t, files)
			fine(t, "Restart", d.Restart(cut))
			gone, err := s.Keep(kept...)
			faulty(t, "Keep, cut", err, api.ErrDead, w.file)
			if !slices.Equal(gone, want[:cut]) {
				t.Errorf("Keep, cut: %v, want %v", gone, want[:cut])
			}
			half := done(files, l, cut)
			lies(t, "Keep, cut", d, half)
			fine(t, "Restart", d.Restart(-1))
			tells(t, "behind a cut in Keep", s, half, "abc")
			gone, err = s.Keep(kept...)
			fine(t, "Keep again", err)
			if !slices.Equal(gone, want[cut:]) {
				t.Errorf("Keep again: %v, want %v", gone, want[cut:])
			}
		}
	}
}

// pool are texts of which many have one sum, and of which some need many raw writes.
func pool() []string {
	return slices.Concat(alike(5, ""), alike(4, strings.Repeat("end", 20)), []string{"", "abc", "abcd", strings.Repeat("x", 32), strings.Repeat("x", 64), strings.Repeat("x", 65), strings.Repeat("x", 150)})
}

// some are those of the blobs that a coin takes.
func some(r *rand.Rand, l []api.Blob) []api.Blob {
	var kept []api.Blob
	for _, b := range l {
		if r.IntN(4) > 0 {
			kept = append(kept, b)
		}
	}
	r.Shuffle(len(kept), func(i, j int) { kept[i], kept[j] = kept[j], kept[i] })
	return kept
}

// step does one thing to the store or to its disk; whether the power is still there.
func (r *run) step(texts []string) bool {
	r.t.Helper()
	switch n := r.r.IntN(20); {
	case n < 14:
		return r.puts(texts[r.r.IntN(len(texts))])
	case n < 16:
		return r.keeps(some(r.r, blobsOf(r.files))...)
	case n == 16:
		r.power(r.r.IntN(30) - 1)
	case n == 17:
		r.opens()
	case n == 18:
		r.spoils(texts)
	}
	return true
}

// spoils puts other bytes into a blob's file, past the store.
func (r *run) spoils(texts []string) {
	r.power(-1)
	name := file(of(texts[r.r.IntN(len(texts))], uint32(1+r.r.IntN(5))))
	bytes := texts[r.r.IntN(len(texts))]
	fine(r.t, "Put on the disk", r.d.Put(name, bytes))
	r.files[name] = bytes
}

// Long scripts with cuts anywhere, in Open too, hold against the model; what is staged lies there till Open or Put.
func TestP125Scripts(t *testing.T) {
	texts := pool()
	for seed := range uint64(60) {
		r := &run{t: t, d: laid(t, -1, nil), files: map[string]string{}, r: rand.New(rand.NewPCG(seed, 12))}
		r.opens()
		for range 60 {
			if !r.step(texts) {
				if r.r.IntN(3) == 0 {
					r.power(r.r.IntN(30) - 1)
				} else {
					r.opens()
				}
			}
			lies(t, "a script", r.d, r.files)
			tells(t, "a script", r.s, r.files, texts[r.r.IntN(len(texts))])
			if t.Failed() {
				t.Fatalf("seed %d", seed)
			}
		}
	}
}

// Of what was put, just these bytes are told for ever: behind whatever is put, each cut and each Open, till Keep takes it away.
func TestP125ForEver(t *testing.T) {
	texts := pool()
	for seed := range uint64(40) {
		r := rand.New(rand.NewPCG(seed, 125))
		d, s := opened(t, nil)
		held := map[api.Blob]string{}
		for range 40 {
			fine(t, "Restart", d.Restart(r.IntN(12)-1))
			for !d.Dead() && r.IntN(6) > 0 {
				text := texts[r.IntN(len(texts))]
				b, err := s.Put(text)
				if err != nil {
					break
				}
				if other, is := held[b]; is && other != text {
					t.Fatalf("seed %d: %.30q and %.30q are one blob", seed, other, text)
				}
				held[b] = text
			}
			for fine(t, "Restart", d.Restart(r.IntN(3)-1)); ; fine(t, "Restart", d.Restart(-1)) {
				again, err := blob.Open(d)
				if err == nil {
					s = again
					break
				}
				faulty(t, "Open, cut", err, api.ErrDead, "stage/1")
			}
			for b, text := range held {
				if got, err := s.Get(b); got != text || err != nil {
					t.Fatalf("seed %d: Get(%v) = %.30q, %v, want %.30q", seed, b, got, err, text)
				}
				if again, is := s.Find(text); again != b || !is {
					t.Fatalf("seed %d: Find(%.30q) = %v, %v, want %v", seed, text, again, is, b)
				}
			}
			if r.IntN(8) == 0 {
				fine(t, "Restart", d.Restart(r.IntN(4)-1))
				gone, _ := s.Keep(some(r, s.All())...)
				for _, b := range gone {
					delete(held, b)
				}
			}
		}
	}
}
