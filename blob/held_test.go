package blob_test

import (
	"slices"
	"strings"
	"testing"

	"yankline/api"
	"yankline/blob"
)

// Of no store, and of one that no call made, nothing is told, and nothing is done to it.
func TestP01Nil(t *testing.T) {
	for _, s := range []*blob.Store{nil, {}, new(blob.Store)} {
		for _, bytes := range []string{"", "abc", strings.Repeat("x", api.MaxBytes+1)} {
			b, err := s.Put(bytes)
			faulty(t, "Put in no store", err, api.ErrNil, "")
			if found, is := s.Find(bytes); b != (api.Blob{}) || found != (api.Blob{}) || is {
				t.Errorf("no store has %v, %v", b, found)
			}
		}
		for _, b := range []api.Blob{{}, {N: 1}, of("abc", 1)} {
			bytes, err := s.Get(b)
			faulty(t, "Get of no store", err, api.ErrNil, "")
			gone, too := s.Keep(b)
			faulty(t, "Keep of no store", too, api.ErrNil, "")
			if bytes != "" || len(gone) != 0 {
				t.Errorf("no store has %q, %v", bytes, gone)
			}
		}
		if l := s.All(); len(l) != 0 {
			t.Errorf("All of no store = %v", l)
		}
		_, err := s.Keep()
		faulty(t, "Keep of no store", err, api.ErrNil, "")
	}
}

// What is handed in stays as it was, its spare room too, and is not kept.
func TestP01HandedIn(t *testing.T) {
	files := mixed()
	all := blobsOf(files)
	_, s := opened(t, files)
	spare := of("spare", 9)
	room := append(slices.Clone(all[:5]), spare, spare)
	gone, err := s.Keep(room[:5]...)
	fine(t, "Keep", err)
	if !slices.Equal(room, append(slices.Clone(all[:5]), spare, spare)) {
		t.Errorf("Keep changed its blobs: %v", room)
	}
	clear(room)
	if !slices.Equal(gone, all[5:]) || !slices.Equal(s.All(), all[:5]) {
		t.Errorf("Keep = %v, All = %v", gone, s.All())
	}
}

// An answer may be written over, its spare room too: no other one changes.
func TestP01NewMemory(t *testing.T) {
	files := mixed()
	all := blobsOf(files)
	_, s := opened(t, files)
	spoil := func(l []api.Blob) {
		l = l[:cap(l)]
		for i := range l {
			l[i] = of("written over", 7)
		}
		_ = append(l, l...)
	}
	first, second := s.All(), s.All()
	spoil(first)
	if !slices.Equal(second, all) || !slices.Equal(s.All(), all) {
		t.Errorf("answers of All share memory: %v", second)
	}
	gone, err := s.Keep(all[4:]...)
	fine(t, "Keep", err)
	then, err := s.Keep(all[8:]...)
	fine(t, "Keep", err)
	spoil(gone)
	if !slices.Equal(then, all[4:8]) || !slices.Equal(s.All(), all[8:]) || !slices.Equal(second, all) {
		t.Errorf("answers of Keep share memory: %v, All = %v", then, s.All())
	}
	spoil(then)
	if !slices.Equal(s.All(), all[8:]) {
		t.Errorf("answers of Keep share memory with the store: %v", s.All())
	}
}

// A store tells what lies on the disk, by whomever it was written: two on one disk tell the same.
func TestP01Again(t *testing.T) {
	d, one := opened(t, nil)
	other, err := blob.Open(d)
	fine(t, "Open", err)
	files := map[string]string{}
	for i, text := range pool() {
		s := []*blob.Store{one, other}[i%2]
		b, err := s.Put(text)
		fine(t, "Put", err)
		files[file(b)] = text
		for range 2 {
			tells(t, "one store", one, files, text)
			tells(t, "another store", other, files, text)
		}
	}
	gone, err := other.Keep(blobsOf(files)[3:]...)
	fine(t, "Keep", err)
	for _, b := range gone {
		delete(files, file(b))
	}
	tells(t, "one store", one, files, pool()...)
	tells(t, "another store", other, files, pool()...)
	lies(t, "two stores", d, files)
}

// Stores on two disks have nothing in common.
func TestP01Apart(t *testing.T) {
	_, one := opened(t, nil)
	_, other := opened(t, nil)
	b, err := one.Put("abc")
	fine(t, "Put", err)
	if _, is := other.Find("abc"); is || len(other.All()) != 0 {
		t.Error("what one store has, the other one has, too")
	}
	_, err = other.Get(b)
	faulty(t, "Get of another store's", err, api.ErrNone, file(b))
}
