package event_test

import (
	"errors"
	"fmt"
	"math/rand/v2"
	"strings"
	"testing"

	"yankline/api"
	"yankline/code"
	"yankline/event"
)

// faulty holds that err is ErrEvent at that place, over the fault of that number at the same one, or over nothing, if that is OK.
func faulty(t *testing.T, what string, e api.Event, err error, under api.Errno, at int) {
	t.Helper()
	var f *api.Fault
	if !errors.As(err, &f) || f.Code != api.ErrEvent || f.What != "" || f.At != at || !errors.Is(err, api.ErrEvent) {
		t.Errorf("%s: %v, want ErrEvent at %d over %v", what, err, at, under)
		return
	}
	if !same(e, api.Event{}) {
		t.Errorf("%s tells %s beside its error", what, told(e))
	}
	if under == api.OK {
		if f.Under != nil {
			t.Errorf("%s: %v is over %v, want nothing", what, err, f.Under)
		}
		return
	}
	var below *api.Fault
	if !errors.As(f.Under, &below) || *below != (api.Fault{Code: under, At: at}) || !errors.Is(err, under) {
		t.Errorf("%s: %v is over %v, want %v at %d", what, err, f.Under, under, at)
	}
}

// reads holds that Read tells of s what the model does.
func reads(t *testing.T, s string) {
	t.Helper()
	want, is, under, at := modelRead(s)
	e, err := event.Read(s)
	if !is {
		faulty(t, "Read("+shown(s)+")", e, err, under, at)
		return
	}
	if err != nil || !same(e, want) {
		t.Errorf("Read(%s) = %s, %v, want %s", shown(s), told(e), err, told(want))
	}
	if again, no := event.Bytes(e); again != s || no != api.OK {
		t.Errorf("Bytes of Read(%s) = %.300x, %v", shown(s), again, no)
	}
}

// shown is s in hexadecimal digits, cut off.
func shown(s string) string { return fmt.Sprintf("% x", s[:min(len(s), 100)]) }

func TestP92Examples(t *testing.T) {
	for _, c := range []struct {
		bytes string
		under api.Errno
		at    int
	}{
		{"", api.ErrShort, 0},
		{"03 01", api.ErrShort, 1},
		{"0b", api.OK, 0},
		{"03 01 41 01 62 05 31 2e 30 2e 30", api.OK, 0},
	} {
		e, err := event.Read(unhex(c.bytes))
		faulty(t, "Read("+c.bytes+")", e, err, c.under, c.at)
	}
	e, err := event.Read(unhex("03 01 61 01 62 05 31 2e 30 2e 30"))
	if err != nil || !same(e, api.Event{Kind: api.Yank, Who: "a", Name: "b", Version: "1.0.0"}) {
		t.Errorf("Read of a yank = %v, %v", e, err)
	}
}

// Which fault it is, where there are several, and at which bounds.
func TestP92Faults(t *testing.T) {
	sumBytes := strings.Repeat("\x00", 8)
	ahead := "\x02\x01a\x01b\x051.0.0" // 11 bytes of a publish event, ahead of its needs
	upTo := ahead + "\x00" + sumBytes  // 20 bytes, ahead of N
	long, longer := strings.Repeat("a", 1<<16), strings.Repeat("a", 1<<16+1)
	for _, c := range []struct {
		bytes string
		under api.Errno
		at    int
	}{
		{"\x00", api.OK, 0},
		{"\x00\x01a", api.OK, 0},
		{"\x0b\x01a", api.OK, 0},
		{"\xff" + longer, api.OK, 0},
		{"\x03", api.ErrShort, 1},
		{"\x03\x01a", api.ErrShort, 3},
		{"\x03\x01a\x01b\x061.0.0", api.ErrShort, 5},
		{"\x03\x01a\x01b\x051.0.0\x00", api.ErrRest, 11},
		{"\x03\x01A\x01b\x051.0.0\x00", api.ErrRest, 11}, // though it may not be
		{"\x03\x01A\x01b\x051.0", api.ErrShort, 5},
		{"\x03\x00\x00\x00", api.OK, 0},
		{"\x03\x00\x00\x00\x00", api.ErrRest, 4},
		{"\x03\x81\x00a\x01b\x051.0.0", api.ErrForm, 1},
		{"\x03\x80", api.ErrShort, 1},
		{"\x03\x01a\x80\x00", api.ErrForm, 3},
		{"\x03" + code.Text(long) + "\x01b\x051.0.0", api.OK, 0},
		{"\x03" + code.Text(longer) + "\x01b\x051.0.0", api.ErrMost, 1},
		{"\x03\x01a" + code.Text(long) + "\x051.0.0", api.OK, 0},
		{"\x03\x01a" + code.Text(longer) + "\x051.0.0", api.ErrMost, 3},
		{"\x03\x01a\x01b" + code.Text(long), api.OK, 0},
		{"\x03\x01a\x01b" + code.Text(longer), api.ErrMost, 5},
		{"\x03\x01a\x01b" + code.Uint(1<<16), api.ErrShort, 5},
		{"\x03\x01a\x01b" + code.Uint(1<<16+1), api.ErrMost, 5},
		{"\x03\x01a\x01b" + code.Uint(1<<64-1), api.ErrMost, 5},
		{"\x05\x01a\x01b\x051.0.0", api.ErrShort, 11},
		{"\x05\x01a\x01b\x051.0.0" + code.Text(long), api.OK, 0},
		{"\x05\x01a\x01b\x051.0.0" + code.Text(longer), api.ErrMost, 11},
		{"\x05\x01a\x01b\x051.0.0" + code.Text(strings.Repeat("\xff", 257)), api.OK, 0},
		{"\x06\x01a\x01b" + code.Text(longer), api.ErrMost, 5},
		{"\x08\x01a" + code.Text(long), api.OK, 0},
		{"\x08\x01a" + code.Text(longer), api.ErrMost, 3},
		{"\x09\x01a\x01b" + code.Text(long), api.OK, 0},
		{"\x09\x01a\x01b" + code.Text(longer), api.ErrMost, 5},
		{"\x01\x01a" + sumBytes[1:], api.ErrShort, 3},
		{"\x01\x01a" + sumBytes + "\x00", api.ErrRest, 11},
		{ahead, api.ErrShort, 11},
		{ahead + "\x40", api.ErrShort, 12},
		{ahead + "\x41", api.ErrMost, 11},
		{ahead + code.Uint(1<<64-1), api.ErrMost, 11},
		{ahead + "\x81\x00", api.ErrForm, 11},
		{ahead + "\x01\x01c", api.ErrShort, 14},
		{ahead + "\x01\x01c\x02*", api.ErrShort, 14},
		{ahead + "\x02\x01c\x01*", api.ErrShort, 16},
		{ahead + "\x02\x01c\x01*\x80\x00", api.ErrForm, 16},
		{ahead + "\x01" + code.Text(long) + "\x01*" + sumBytes + "\x01\x00", api.OK, 0},
		{ahead + "\x01" + code.Text(longer) + "\x01*" + sumBytes + "\x01\x00", api.ErrMost, 12},
		{ahead + "\x01\x01c" + code.Text(long) + sumBytes + "\x01\x00", api.OK, 0},
		{ahead + "\x01\x01c" + code.Text(longer) + sumBytes + "\x01\x00", api.ErrMost, 14},
		{ahead + "\x02\x01d\x01*\x01c\x01*" + sumBytes + "\x01\x00", api.OK, 0},
		{ahead + "\x00" + sumBytes[1:], api.ErrShort, 12},
		{upTo, api.ErrShort, 20},
		{upTo + "\x00\x00", api.OK, 0},
		{upTo + code.Uint(1<<32) + "\x00", api.ErrMost, 20},
		{upTo + "\x81\x00\x00", api.ErrForm, 20},
		{upTo + "\x01", api.ErrShort, 21},
		{upTo + "\x01" + code.Uint(65537), api.OK, 0},
		{upTo + "\x01" + code.Uint(1<<32-1), api.OK, 0},
		{upTo + "\x01" + code.Uint(1<<32), api.ErrMost, 21},
		{upTo + "\x01" + code.Uint(1<<32) + "\x00", api.ErrMost, 21},
		{upTo + "\x01\x80\x00", api.ErrForm, 21},
		{upTo + "\x01\x00\x00", api.ErrRest, 22},
	} {
		e, err := event.Read(c.bytes)
		faulty(t, "Read("+shown(c.bytes)+")", e, err, c.under, c.at)
		reads(t, c.bytes)
	}
	for _, s := range []string{upTo + "\x01\x00", upTo + code.Uint(1<<32-1) + code.Uint(65536)} {
		if _, err := event.Read(s); err != nil {
			t.Errorf("Read(%s): %v", shown(s), err)
		}
		reads(t, s)
	}
}

// Each byte at each place of events' bytes is taken for what it is; so is what is cut off, left out, put in.
func TestP92Bytes(t *testing.T) {
	for _, e := range valid() {
		s := bytesOf(e)
		reads(t, s)
		reads(t, s+s)
		for at := range s {
			if len(s) > 1000 && at%97 > 0 && at > 300 {
				continue
			}
			reads(t, s[:at])
			reads(t, s[:at]+s[at+1:])
			for _, c := range "\x00\x01\x40\x41\x7f\u0080\u00ff" {
				reads(t, s[:at]+string([]byte{byte(c)})+s[at:])
			}
			for c := range 256 {
				if len(s) < 80 || c%41 == 0 {
					reads(t, s[:at]+string([]byte{byte(c)})+s[at+1:])
				}
			}
		}
	}
}

// What is put together of the bytes of several events, at the same places always.
func TestP92Mixed(t *testing.T) {
	r := rand.New(rand.NewPCG(9, 2))
	var l []string
	for _, e := range valid() {
		if s := bytesOf(e); len(s) < 300 {
			l = append(l, s)
		}
	}
	for range 20000 {
		a, b := l[r.IntN(len(l))], l[r.IntN(len(l))]
		s := []byte(a[:r.IntN(len(a)+1)] + b[r.IntN(len(b)+1):])
		for range r.IntN(3) {
			if len(s) > 0 {
				s[r.IntN(len(s))] = byte(r.IntN(256) >> r.IntN(8))
			}
		}
		reads(t, string(s))
	}
}

// Bytes of no sense, of any length: the call ends, and says so.
func TestP92Any(t *testing.T) {
	for k := range 256 {
		kind := string([]byte{byte(k)})
		reads(t, kind)
		for c := range 256 {
			reads(t, kind+string([]byte{byte(c)}))
			reads(t, kind+strings.Repeat(string([]byte{byte(c)}), 40))
		}
	}
	for _, c := range []string{"\x00", "\x01", "\x02", "\x03", "\x7f", "\xff", "a"} {
		for _, ahead := range []string{"", "\x01", "\x02", "\x03", "\x05", "\x0b"} {
			reads(t, ahead+strings.Repeat(c, 1<<20))
		}
	}
}
