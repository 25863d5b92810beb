package frame_test

import (
	"encoding/binary"
	"hash/fnv"
	"math/rand/v2"
	"slices"
	"strings"
	"testing"

	"yankline/api"
	"yankline/frame"
)

// made is the payload's record by Of.
func made(t *testing.T, payload string) string {
	t.Helper()
	r, err := frame.Of(payload)
	if err != nil {
		t.Fatalf("Of of %d bytes: %v", len(payload), err)
	}
	return r
}

func TestP43Together(t *testing.T) {
	var s string
	for _, p := range payloads() {
		s += made(t, p)
	}
	told(t, "all payloads", s, payloads(), len(s), api.OK)
}

func TestP43FrontOfOf(t *testing.T) {
	for _, p := range payloads() {
		if payload, rest, err := frame.Front(made(t, p)); payload != p || rest != "" || err != nil {
			t.Errorf("Front of Of of %d bytes = %.40q, %.40q, %v", len(p), payload, rest, err)
		}
	}
}

// Of records that are cut off anywhere those are told that are whole.
func TestP43CutAnywhere(t *testing.T) {
	l := []string{"a", "", "b", "", "", "foo-bar 1.0.0", strings.Repeat("x", 300), record("abc"), "\x00"}
	var s string
	ends := []int{0}
	for _, p := range l {
		s += made(t, p)
		ends = append(ends, len(s))
	}
	whole := 0
	for n := range len(s) + 1 {
		for whole+1 < len(ends) && ends[whole+1] <= n {
			whole++
		}
		why := api.ErrTorn
		if ends[whole] == n {
			why = api.OK
		}
		told(t, "cut off", s[:n], l[:whole], ends[whole], why)
	}
}

// Of a record with one byte turned, in its sum or its payload, Front and All know that it is bad.
func TestP43Turned(t *testing.T) {
	for _, p := range []string{"", "a", "abc", "\x00\x00\x00", strings.Repeat("\xff", 40), record("abc")} {
		r := made(t, p)
		for at := 4; at < len(r); at++ {
			for by := 1; by < 256; by++ {
				s := turned(r, at, byte(by))
				refused(t, "a byte turned", s, api.ErrBad)
				refused(t, "a byte turned, and more behind", s+r, api.ErrBad)
			}
			told(t, "a byte turned in the second record", r+turned(r, at, 1)+r, []string{p}, len(r), api.ErrBad)
		}
	}
	for _, at := range []int{4, 11, 12, 13, api.MaxRecord / 2, api.MaxRecord + 11} {
		refused(t, "a byte of the longest turned", turned(made(t, most), at, 0x80), api.ErrBad)
	}
}

// Whatever its length is turned to, a record is told as none.
func TestP43LengthTurned(t *testing.T) {
	for _, p := range []string{"", "a", "abc", strings.Repeat("x", 300)} {
		r := made(t, p)
		for at := range 4 {
			for by := 1; by < 256; by++ {
				s := turned(r, at, byte(by))
				if payload, rest, err := frame.Front(s + r); payload != "" || rest != "" || err == nil {
					t.Errorf("a length turned: %.40q, %.40q, %v", payload, rest, err)
				}
			}
		}
	}
}

// model is All as the chapter's words say it.
func model(s string) (l []string, used int, why api.Errno) {
	for used < len(s) {
		left := len(s) - used
		if left < 12 {
			return l, used, api.ErrTorn
		}
		n := int64(binary.BigEndian.Uint32([]byte(s[used:])))
		switch {
		case n > 131072:
			return l, used, api.ErrLong
		case n > int64(left-12):
			return l, used, api.ErrTorn
		}
		payload := s[used+12 : used+12+int(n)]
		h := fnv.New64a()
		h.Write([]byte(s[used:used+4] + payload))
		if h.Sum64() != binary.BigEndian.Uint64([]byte(s[used+4:])) {
			return l, used, api.ErrBad
		}
		l = append(l, payload)
		used += 12 + int(n)
	}
	return l, used, api.OK
}

// some is bytes as a cut and what spoils them may leave them: whole records, parts of them, bytes of no record.
func some(r *rand.Rand) string {
	var s string
	for range r.IntN(6) {
		p := strings.Repeat(string([]byte{byte(r.Uint32())}), r.IntN(40))
		switch rec := record(p); r.IntN(8) {
		case 0:
			s += rec[:r.IntN(len(rec))]
		case 1:
			s += turned(rec, r.IntN(len(rec)), byte(1+r.IntN(255)))
		case 2:
			s += p
		default:
			s += rec
		}
	}
	return s
}

func TestP43Chance(t *testing.T) {
	r := rand.New(rand.NewPCG(4, 4))
	for range 20000 {
		s := some(r)
		l, used, why := model(s)
		told(t, "some bytes", s, l, used, why)
		if len(l) == 0 && s != "" {
			refused(t, "some bytes", s, why)
		} else if len(l) > 0 {
			payload, rest, err := frame.Front(s)
			if payload != l[0] || rest != s[12+len(l[0]):] || err != nil {
				t.Errorf("Front of some bytes = %.40q, %.40q, %v", payload, rest, err)
			}
		}
	}
	refused(t, "nothing", "", api.ErrTorn)
}

// What All told of the same bytes shares no list with what it tells anew, spare room included.
func TestP01Apart(t *testing.T) {
	s := record("a") + record("b") + record("c") + "x"
	one, _, first := frame.All(s)
	two, _, second := frame.All(s)
	for i := range one[:cap(one)] {
		one[:cap(one)][i] = "changed"
	}
	first.(*api.Fault).At = 7
	faulty(t, "the other fault", second, api.ErrTorn, 39)
	if !slices.Equal(two, []string{"a", "b", "c"}) {
		t.Errorf("a list that was told is changed by another one: %q", two)
	}
	told(t, "told anew", s, []string{"a", "b", "c"}, 39, api.ErrTorn)
}

// A call answers the same whatever was called before, and the fault of one is not the next one's.
func TestP01Again(t *testing.T) {
	_, long := frame.Of(most + "x")
	_, _, torn := frame.Front("x")
	_, _, bad := frame.Front(strings.Repeat("\x00", 12))
	_, _, behind := frame.All(record("a") + strings.Repeat("\x00", 12))
	faulty(t, "Of", long, api.ErrLong, -1)
	faulty(t, "Front", torn, api.ErrTorn, 0)
	faulty(t, "Front", bad, api.ErrBad, 0)
	faulty(t, "All", behind, api.ErrBad, 13)
	if got := made(t, "abc"); got != record("abc") || frame.Size("abc") != 15 {
		t.Errorf("Of(abc) behind errors = % x", got)
	}
	told(t, "All behind errors", record("abc"), []string{"abc"}, 15, api.OK)
}
