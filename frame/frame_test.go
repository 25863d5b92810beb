package frame_test

import (
	"encoding/binary"
	"errors"
	"hash/fnv"
	"math"
	"slices"
	"strings"
	"testing"

	"yankline/api"
	"yankline/frame"
)

// faulty holds that err is the fault of that number at that place, of nothing and with nothing under it.
func faulty(t *testing.T, what string, err error, want api.Errno, at int) {
	t.Helper()
	var f *api.Fault
	if !errors.As(err, &f) || *f != (api.Fault{Code: want, At: at}) || !errors.Is(err, want) {
		t.Errorf("%s: %v, want %v at %d", what, err, want, at)
	}
}

// headed is bytes behind a head that says that length, with the sum that belongs to both, whatever the length says.
func headed(length uint32, bytes string) string {
	said := binary.BigEndian.AppendUint32(nil, length)
	h := fnv.New64a()
	h.Write(said)
	h.Write([]byte(bytes))
	return string(h.Sum(said)) + bytes
}

// record is the record of the payload, as the chapter's words say.
func record(payload string) string { return headed(uint32(len(payload)), payload) }

// turned is s with another byte at that place.
func turned(s string, at int, by byte) string {
	b := []byte(s)
	b[at] ^= by
	return string(b)
}

// most is a payload than which none is longer.
var most = strings.Repeat("\xa5m", api.MaxRecord/2)

// payloads are ordinary and odd ones: of all bytes, of bytes that are no runes, that are records themselves, and of all edges of a length.
func payloads() []string {
	every := make([]byte, 256)
	for i := range every {
		every[i] = byte(i)
	}
	l := []string{"", "a", "b", "abc", "foo-bar 1.0.0", "\x00", strings.Repeat("\x00", 12), strings.Repeat("\xff", 12), "ä€\U0001f600", "\x80\xc3", string(every), record(""), record("abc"), record("a") + record("b"), record("abc")[:14]}
	for _, n := range []int{11, 13, 255, 256, 257, 511, 65535, 65536, 65537, api.MaxRecord - 1} {
		l = append(l, strings.Repeat("p", n))
	}
	return append(l, most)
}

// tooLong are payloads that are no record's.
func tooLong() []string {
	return []string{most + "x", strings.Repeat("\x00", api.MaxRecord+1), strings.Repeat("x", 1<<24)}
}

func TestP41Examples(t *testing.T) {
	if got, err := frame.Of(""); len(got) != 12 || got[:4] != "\x00\x00\x00\x00" || err != nil {
		t.Errorf("Of(nothing) = % x, %v", got, err)
	}
	if got := frame.Size("abc"); got != 15 {
		t.Errorf("Size(abc) = %d", got)
	}
}

// The records are such whose sums were worked out elsewhere.
func TestP41OfKnown(t *testing.T) {
	for _, c := range []struct{ payload, record string }{
		{"", "\x00\x00\x00\x00\x4d\x25\x76\x7f\x9d\xce\x13\xf5"},
		{"a", "\x00\x00\x00\x01\xe4\xb8\xca\xd9\x25\x28\xd1\x79" + "a"},
		{"abc", "\x00\x00\x00\x03\x8b\x7b\x41\xfb\x1c\x25\x2e\x54" + "abc"},
	} {
		if got, err := frame.Of(c.payload); got != c.record || err != nil {
			t.Errorf("Of(%q) = % x, %v, want % x", c.payload, got, err, c.record)
		}
	}
}

func TestP41Of(t *testing.T) {
	for _, p := range payloads() {
		if got, err := frame.Of(p); got != record(p) || err != nil {
			t.Errorf("Of of %d bytes = %.40q, %v, want %.40q", len(p), got, err, record(p))
		}
	}
}

func TestP41OfTooLong(t *testing.T) {
	if len(most) != api.MaxRecord {
		t.Fatalf("the longest payload has %d bytes", len(most))
	}
	for _, p := range tooLong() {
		got, err := frame.Of(p)
		faulty(t, "Of of too many bytes", err, api.ErrLong, -1)
		if got != "" {
			t.Errorf("Of of %d bytes tells %.40q beside its error", len(p), got)
		}
	}
}

func TestP41Size(t *testing.T) {
	for _, p := range append(payloads(), tooLong()...) {
		if got, want := frame.Size(p), 12+len(p); got != want {
			t.Errorf("Size of %d bytes = %d, want %d", len(p), got, want)
		}
		if r, err := frame.Of(p); err == nil && len(r) != frame.Size(p) {
			t.Errorf("Size of %d bytes = %d, and its record has %d", len(p), frame.Size(p), len(r))
		}
	}
}

// refused holds that no record stands at the front of s, and that nothing is told beside why.
func refused(t *testing.T, what, s string, want api.Errno) {
	t.Helper()
	payload, rest, err := frame.Front(s)
	faulty(t, what, err, want, 0)
	if payload != "" || rest != "" {
		t.Errorf("%s: tells %.40q, %.40q beside its error", what, payload, rest)
	}
}

func TestP42FrontExamples(t *testing.T) {
	abc := record("abc")
	refused(t, "11 bytes", abc[:11], api.ErrTorn)
	refused(t, "abc without its last byte", abc[:14], api.ErrTorn)
	for by := 1; by < 256; by++ {
		refused(t, "abc with its last byte turned", turned(abc, 14, byte(by)), api.ErrBad)
	}
	refused(t, "ff ff ff ff and eight bytes", "\xff\xff\xff\xff12345678", api.ErrLong)
}

func TestP42Front(t *testing.T) {
	for _, p := range payloads() {
		for _, behind := range []string{"", "\x00", "more", record(p), record("abc")[:14], "\xff\xff\xff\xff12345678"} {
			payload, rest, err := frame.Front(record(p) + behind)
			if payload != p || rest != behind || err != nil {
				t.Errorf("Front of the record of %d bytes = %.40q, %.40q, %v, want %.40q behind", len(p), payload, rest, err, behind)
			}
		}
	}
}

// Of fewer bytes than a head nothing is looked at, and then the length, ahead of how many bytes there are, ahead of the sum.
func TestP42FrontOrder(t *testing.T) {
	for n := range 12 {
		refused(t, "few bytes", strings.Repeat("\xff", n), api.ErrTorn)
		refused(t, "few bytes", strings.Repeat("\x00", n), api.ErrTorn)
	}
	refused(t, "a head of noughts", strings.Repeat("\x00", 12), api.ErrBad)
	refused(t, "a head of noughts and more", strings.Repeat("\x00", 100), api.ErrBad)
	long := strings.Repeat("x", api.MaxRecord+1)
	for _, bytes := range []string{"", "x", long, long + "more"} {
		for _, length := range []uint32{api.MaxRecord + 1, 1 << 18, 1 << 24, math.MaxInt32, math.MaxInt32 + 1, math.MaxUint32} {
			refused(t, "a length too long", headed(length, bytes), api.ErrLong)
			refused(t, "a length too long, and a wrong sum", turned(headed(length, bytes), 4, 1), api.ErrLong)
		}
	}
	for _, bytes := range []string{"", "x", long[:api.MaxRecord-1]} {
		refused(t, "the longest length", headed(api.MaxRecord, bytes), api.ErrTorn)
		refused(t, "one byte too few", headed(uint32(len(bytes)+1), bytes), api.ErrTorn)
		refused(t, "one byte too few, and a wrong sum", turned(headed(uint32(len(bytes)+1), bytes), 4, 1), api.ErrTorn)
	}
	refused(t, "the longest length, and a wrong sum", headed(api.MaxRecord, long), api.ErrBad)
}

// The sum is of the length and the payload and of nothing else: other sums are none.
func TestP42FrontOtherSums(t *testing.T) {
	plain := fnv.New64a()
	plain.Write([]byte("abc"))
	other := fnv.New64()
	other.Write([]byte("\x00\x00\x00\x03abc"))
	behind := fnv.New64a()
	behind.Write([]byte("abc\x00\x00\x00\x03"))
	for _, h := range [][]byte{plain.Sum(nil), other.Sum(nil), behind.Sum(nil)} {
		refused(t, "another sum", "\x00\x00\x00\x03"+string(h)+"abc", api.ErrBad)
	}
	low := []byte(record("abc"))
	slices.Reverse(low[4:12])
	refused(t, "a sum with the lowest byte first", string(low), api.ErrBad)
	refused(t, "a sum of a byte more than the length says", headed(3, "abcd"), api.ErrBad)
}

func TestP42AllExamples(t *testing.T) {
	told(t, "two records and a byte", record("a")+record("b")+"x", []string{"a", "b"}, 26, api.ErrTorn)
}

// told holds what All tells of s, and why it goes no further, at the place where that record begins.
func told(t *testing.T, what, s string, want []string, used int, why api.Errno) {
	t.Helper()
	got, n, err := frame.All(s)
	if n != used || len(got) != len(want) {
		t.Errorf("%s: %d payloads, %d bytes, want %d, %d", what, len(got), n, len(want), used)
		return
	}
	for i := range got {
		if got[i] != want[i] {
			t.Errorf("%s: payload %d is %.40q, want %.40q", what, i, got[i], want[i])
		}
	}
	if why != api.OK {
		faulty(t, what, err, why, used)
	} else if err != nil {
		t.Errorf("%s: %v", what, err)
	}
}

func TestP42All(t *testing.T) {
	told(t, "nothing", "", nil, 0, api.OK)
	long := strings.Repeat("x", api.MaxRecord+1)
	for _, ahead := range [][]string{nil, {""}, {"a"}, {"a", "", "b"}, {"", "", ""}, {"abc", most, "d"}} {
		var s string
		for _, p := range ahead {
			s += record(p)
		}
		for _, c := range []struct {
			what, behind string
			why          api.Errno
		}{
			{"no more", "", api.OK},
			{"a byte", "\x00", api.ErrTorn},
			{"11 bytes", strings.Repeat("\xff", 11), api.ErrTorn},
			{"a head alone", record("abc")[:12], api.ErrTorn},
			{"a record without its last byte", record("abc")[:14], api.ErrTorn},
			{"a record without its last byte, which is bad", turned(record("abc"), 5, 1)[:14], api.ErrTorn},
			{"a length too long", "\xff\xff\xff\xff12345678", api.ErrLong},
			{"a length too long, with bytes", headed(api.MaxRecord+1, long), api.ErrLong},
			{"a bad record", turned(record("abc"), 14, 1), api.ErrBad},
			{"a bad record of nothing", turned(record(""), 11, 1), api.ErrBad},
		} {
			told(t, c.what, s+c.behind, ahead, len(s), c.why)
			if c.why == api.ErrLong || c.why == api.ErrBad { // what stands behind is not looked for
				told(t, c.what+", and one behind", s+c.behind+record("abc"), ahead, len(s), c.why)
			}
		}
	}
}

// Many records are gone over in one go: none of them anew for each that follows.
func TestP42AllMany(t *testing.T) {
	many := strings.Repeat(record("")+record("a"), 1<<18)
	got, used, err := frame.All(many)
	if len(got) != 1<<19 || used != len(many) || err != nil {
		t.Errorf("All of 2^19 records: %d payloads, %d bytes, %v", len(got), used, err)
	}
}
