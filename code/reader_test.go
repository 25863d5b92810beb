package code_test

import (
	"errors"
	"math"
	"math/big"
	"slices"
	"strings"
	"testing"

	"yankline/api"
	"yankline/code"
)

// faulty holds that err is the fault of that number at that place, with nothing under it.
func faulty(t *testing.T, what string, err error, want api.Errno, at int) {
	t.Helper()
	var f *api.Fault
	if !errors.As(err, &f) || *f != (api.Fault{Code: want, At: at}) || !errors.Is(err, want) {
		t.Errorf("%s: %v, want %v at %d", what, err, want, at)
	}
}

// stays holds that the reader is at that place, with that rest.
func stays(t *testing.T, what string, r *code.Reader, at int, rest string) {
	t.Helper()
	if r.At() != at || r.Rest() != rest {
		t.Errorf("%s: at %d with %.40q, want %d with %.40q", what, r.At(), r.Rest(), at, rest)
	}
}

// model reads a number as the chapter's words say: what it is, how many bytes it has, what is wrong.
func model(s string, most uint64) (uint64, int, api.Errno) {
	last := slices.IndexFunc([]byte(s), func(c byte) bool { return c < 0x80 })
	switch {
	case last < 0 && len(s) < 10:
		return 0, 0, api.ErrShort
	case last < 0 || last > 9 || last == 9 && s[9] > 1:
		return 0, 0, api.ErrForm
	case last > 0 && s[last] == 0:
		return 0, 0, api.ErrForm
	}
	x := new(big.Int)
	for i := last; i >= 0; i-- {
		x.Lsh(x, 7).Or(x, big.NewInt(int64(s[i]&0x7f)))
	}
	if x.Cmp(new(big.Int).SetUint64(most)) > 0 {
		return 0, 0, api.ErrMost
	}
	return x.Uint64(), last + 1, api.OK
}

// shorts are all texts of up to four of the bytes in which something changes.
func shorts() []string {
	l := []string{""}
	for from, n := 0, 0; n < 4; n++ {
		to := len(l)
		for _, s := range l[from:to] {
			for _, c := range []byte{0, 1, 2, 0x7f, 0x80, 0x81, 0xff} {
				l = append(l, s+string([]byte{c}))
			}
		}
		from = to
	}
	return l
}

// longs are numbers of eight to eleven bytes, with each byte there can be at the end.
func longs() []string {
	var l []string
	for _, ahead := range []string{"\x80", "\xff", "\x81"} {
		for n := 7; n <= 10; n++ {
			for c := range 256 {
				l = append(l, strings.Repeat(ahead, n)+string([]byte{byte(c)}))
			}
		}
	}
	return append(l, strings.Repeat("\x80", 9), strings.Repeat("\xff", 1<<16))
}

func TestP22UintExamples(t *testing.T) {
	r := code.New("\x80\x00")
	_, err := r.Uint(9)
	faulty(t, "Uint(9) of 80 00", err, api.ErrForm, 0)
	r = code.New("\x80")
	_, err = r.Uint(9)
	faulty(t, "Uint(9) of 80", err, api.ErrShort, 0)
	r = code.New("\x05")
	_, err = r.Uint(4)
	faulty(t, "Uint(4) of 05", err, api.ErrMost, 0)
	if x, err := r.Uint(5); x != 5 || err != nil {
		t.Errorf("Uint(5) of 05 = %d, %v", x, err)
	}
}

func TestP22UintModel(t *testing.T) {
	mosts := []uint64{0, 1, 2, 127, 128, 255, 16383, 16384, math.MaxInt64, 1 << 63, math.MaxUint64 - 1, math.MaxUint64}
	for _, s := range append(shorts(), longs()...) {
		for _, most := range mosts {
			want, n, e := model(s, most)
			r := code.New(".." + s)
			r.Byte()
			r.Byte()
			got, err := r.Uint(most)
			if got != want {
				t.Errorf("Uint(%d) of %.40q = %d, want %d", most, s, got, want)
			}
			if e != api.OK {
				faulty(t, "Uint", err, e, 2)
			} else if err != nil {
				t.Errorf("Uint(%d) of %.40q: %v", most, s, err)
			}
			stays(t, "Uint", r, 2+n, s[n:])
		}
	}
}

func TestP22UintMost(t *testing.T) {
	for _, x := range numbers() {
		r := code.New(code.Uint(x))
		if x > 0 {
			got, err := r.Uint(x - 1)
			faulty(t, "Uint of one less", err, api.ErrMost, 0)
			stays(t, "Uint of one less", r, 0, code.Uint(x))
			if got != 0 {
				t.Errorf("Uint(%d) tells %d beside its error", x-1, got)
			}
		}
		if got, err := r.Uint(x); got != x || err != nil {
			t.Errorf("Uint(%d) of itself = %d, %v", x, got, err)
		}
	}
}

func TestP22Word(t *testing.T) {
	s := "\x01\x23\x45\x67\x89\xab\xcd\xef\x80"
	r := code.New(s)
	if x, err := r.Word(); x != 0x0123456789abcdef || err != nil {
		t.Errorf("Word = %x, %v", x, err)
	}
	stays(t, "Word", r, 8, "\x80")
	for n := range 8 {
		r := code.New("." + s[:n])
		r.Byte()
		x, err := r.Word()
		faulty(t, "Word of few bytes", err, api.ErrShort, 1)
		stays(t, "Word of few bytes", r, 1, s[:n])
		if x != 0 {
			t.Errorf("Word of %d bytes tells %d", n, x)
		}
	}
}

func TestP22Byte(t *testing.T) {
	for c := range 256 {
		r := code.New(string([]byte{byte(c), 7}))
		if got, err := r.Byte(); got != byte(c) || err != nil {
			t.Errorf("Byte of %02x = %02x, %v", c, got, err)
		}
		stays(t, "Byte", r, 1, "\x07")
		if got, err := r.Byte(); got != 7 || err != nil {
			t.Errorf("second Byte = %02x, %v", got, err)
		}
		got, err := r.Byte()
		faulty(t, "Byte at the end", err, api.ErrShort, 2)
		stays(t, "Byte at the end", r, 2, "")
		if got != 0 {
			t.Errorf("Byte at the end tells %02x", got)
		}
	}
}

func TestP23TextExamples(t *testing.T) {
	r := code.New("\x02a")
	_, err := r.Text(9)
	faulty(t, "Text(9) of 02 61", err, api.ErrShort, 0)
	stays(t, "Text(9) of 02 61", r, 0, "\x02a")
	r = code.New("\x02abc")
	if s, err := r.Text(9); s != "ab" || err != nil {
		t.Errorf("Text(9) = %q, %v", s, err)
	}
	faulty(t, "End behind Text", r.End(), api.ErrRest, 3)
}

func TestP23Text(t *testing.T) {
	huge := code.Uint(math.MaxInt64)
	for _, c := range []struct {
		bytes string
		most  int
		text  string
		want  api.Errno
	}{
		{"", 9, "", api.ErrShort},
		{"\x80", 9, "", api.ErrShort},
		{"\x02", 9, "", api.ErrShort},
		{"\x02a", 2, "", api.ErrShort},
		{"\x02a", 1, "", api.ErrMost}, // the length's own error is ahead of the bytes that are wanting
		{"\x80\x00", 9, "", api.ErrForm},
		{"\x82\x00ab", 9, "", api.ErrForm},
		{"\x02ab", 2, "ab", api.OK},
		{"\x02ab", 1, "", api.ErrMost},
		{"\x02ab", math.MaxInt, "ab", api.OK},
		{"\x00a", 0, "", api.OK},
		{"\x01a", 0, "", api.ErrMost},
		{"\x00a", -1, "", api.OK},
		{"\x01a", -1, "", api.ErrMost},
		{"\x01a", math.MinInt, "", api.ErrMost},
		{"\x00", math.MinInt, "", api.OK},
		{huge + "a", math.MaxInt, "", api.ErrShort},
		{huge + "a", math.MaxInt - 1, "", api.ErrMost},
		{code.Uint(math.MaxUint64) + "a", math.MaxInt, "", api.ErrMost},
		{code.Uint(1<<63) + "a", math.MaxInt, "", api.ErrMost},
		{strings.Repeat("\xff", 10), math.MaxInt, "", api.ErrForm},
	} {
		r := code.New("." + c.bytes)
		r.Byte()
		got, err := r.Text(c.most)
		if got != c.text {
			t.Errorf("Text(%d) of %q = %q, want %q", c.most, c.bytes, got, c.text)
		}
		if c.want != api.OK {
			faulty(t, "Text", err, c.want, 1)
			stays(t, "Text", r, 1, c.bytes)
		} else if err != nil || r.At() != 2+len(c.text) {
			t.Errorf("Text(%d) of %q: %v, at %d", c.most, c.bytes, err, r.At())
		}
	}
}

func TestP23TextMost(t *testing.T) {
	for _, s := range texts() {
		if got, err := code.New(code.Text(s)).Text(len(s)); got != s || err != nil {
			t.Errorf("Text(%d) of as many bytes = %.40q, %v", len(s), got, err)
		}
		if s != "" {
			got, err := code.New(code.Text(s)).Text(len(s) - 1)
			faulty(t, "Text of one less", err, api.ErrMost, 0)
			if got != "" {
				t.Errorf("Text of one less tells %.40q", got)
			}
		}
	}
}

func TestP23Texts(t *testing.T) {
	for _, c := range []struct {
		bytes      string
		most, each int
		want       api.Errno
	}{
		{"", 9, 9, api.ErrShort},
		{"\x80", 9, 9, api.ErrShort},
		{"\x02\x01a", 9, 9, api.ErrShort},
		{"\x02\x01a\x02b", 9, 9, api.ErrShort},
		{"\x02\x01a", 1, 9, api.ErrMost}, // how many there are is ahead of what they are
		{"\x02\x01a\x80\x00", 9, 9, api.ErrForm},
		{"\x02\x01a\x02bc", 9, 1, api.ErrMost},
		{"\x02\x02bc\x80\x00", 9, 1, api.ErrMost}, // the first text's error, not the second one's
		{"\x02\x80\x00\x02bc", 9, 1, api.ErrForm},
		{"\x03\x00\x00", 3, 0, api.ErrShort},
		{"\x82\x00\x00\x00", 9, 9, api.ErrForm},
		{"\x01\x00", 0, 9, api.ErrMost},
		{"\x01\x00", -1, 9, api.ErrMost},
		{"\x01\x00", math.MinInt, 9, api.ErrMost},
		{"\x01\x01a", 1, -1, api.ErrMost},
		{"\x01\x01a", 1, math.MinInt, api.ErrMost},
		{code.Uint(math.MaxInt64) + "\x00\x00", math.MaxInt, 9, api.ErrShort},
		{code.Uint(math.MaxUint64) + "\x00\x00", math.MaxInt, 9, api.ErrMost},
	} {
		r := code.New(".." + c.bytes)
		r.Byte()
		r.Byte()
		got, err := r.Texts(c.most, c.each)
		faulty(t, "Texts", err, c.want, 2)
		stays(t, "Texts", r, 2, c.bytes)
		if len(got) != 0 {
			t.Errorf("Texts(%d, %d) of %q tells %q beside its error", c.most, c.each, c.bytes, got)
		}
	}
}

func TestP23TextsMost(t *testing.T) {
	for _, c := range []struct {
		bytes      string
		most, each int
		list       []string
	}{
		{"\x02\x01a\x00", 2, 1, []string{"a", ""}},
		{"\x02\x00\x00", 2, -1, []string{"", ""}},
		{"\x00", 0, 0, nil},
		{"\x00", -1, -1, nil},
		{"\x00", math.MinInt, math.MinInt, nil},
		{"\x01\x02ab", math.MaxInt, math.MaxInt, []string{"ab"}},
	} {
		r := code.New(c.bytes + "more")
		if got, err := r.Texts(c.most, c.each); !slices.Equal(got, c.list) || err != nil {
			t.Errorf("Texts(%d, %d) of %q = %q, %v", c.most, c.each, c.bytes, got, err)
		}
		stays(t, "Texts", r, len(c.bytes), "more")
	}
}

// A call that is wrong leaves the reader so that the next one reads from the same place.
func TestP23TextsAgain(t *testing.T) {
	r := code.New("\x02\x01a\x02bc")
	_, err := r.Texts(2, 1)
	faulty(t, "Texts(2, 1)", err, api.ErrMost, 0)
	if l, err := r.Texts(2, 2); !slices.Equal(l, []string{"a", "bc"}) || err != nil {
		t.Errorf("Texts(2, 2) behind an error = %q, %v", l, err)
	}
}

func TestP24AtRestEnd(t *testing.T) {
	s := "\x05\x01a" + code.Word(7) + "\x01\x00\xff"
	r := code.New(s)
	at := func(want int) {
		t.Helper()
		stays(t, "a walk", r, want, s[want:])
		faulty(t, "End", r.End(), api.ErrRest, want)
		stays(t, "End", r, want, s[want:])
	}
	at(0)
	r.Uint(9)
	at(1)
	r.Text(9)
	at(3)
	r.Word()
	at(11)
	r.Texts(9, 9)
	at(13)
	r.Byte()
	stays(t, "the end", r, len(s), "")
	if err := r.End(); err != nil {
		t.Errorf("End at the end: %v", err)
	}
	if err := code.New("").End(); err != nil {
		t.Errorf("End of nothing: %v", err)
	}
}

// What was made is read as that, and what stands behind it is not looked at.
func TestP25ReadAsMade(t *testing.T) {
	for _, behind := range []string{"", "\x00", "\x80", "\xff\xff", "more"} {
		for _, x := range numbers() {
			r := code.New(code.Uint(x) + code.Word(x) + behind)
			a, errA := r.Uint(math.MaxUint64)
			b, errB := r.Word()
			if a != x || b != x || errA != nil || errB != nil || r.Rest() != behind {
				t.Errorf("%d is read as %d, %v and %d, %v with %q behind", x, a, errA, b, errB, r.Rest())
			}
		}
		for _, s := range texts() {
			r := code.New(code.Text(s) + behind)
			if got, err := r.Text(1 << 20); got != s || err != nil || r.Rest() != behind {
				t.Errorf("a text of %d bytes is read as %.40q, %v with %q behind", len(s), got, err, r.Rest())
			}
		}
		for _, l := range lists() {
			r := code.New(code.Texts(l...) + behind)
			if got, err := r.Texts(1<<10, 1<<20); !slices.Equal(got, l) || err != nil || r.Rest() != behind {
				t.Errorf("%.40q is read as %.40q, %v with %q behind", l, got, err, r.Rest())
			}
		}
	}
}

// What was read is written as the bytes that it was read from.
func TestP25WrittenAsRead(t *testing.T) {
	for _, s := range append(shorts(), longs()...) {
		r := code.New(s)
		if x, err := r.Uint(math.MaxUint64); err == nil && code.Uint(x) != s[:r.At()] {
			t.Errorf("%.40q is read as %d, which is written otherwise", s, x)
		}
		r = code.New(s)
		if x, err := r.Text(1 << 20); err == nil && code.Text(x) != s[:r.At()] {
			t.Errorf("%.40q is read as %.40q, which is written otherwise", s, x)
		}
		r = code.New(s)
		if l, err := r.Texts(1<<20, 1<<20); err == nil && code.Texts(l...) != s[:r.At()] {
			t.Errorf("%.40q is read as %.40q, which is written otherwise", s, l)
		}
	}
}

// A reader that is not there, and one that New did not make, tell nothing and are no reader's.
func TestP01NoReader(t *testing.T) {
	for _, r := range []*code.Reader{nil, {}, new(code.Reader)} {
		x, errX := r.Uint(math.MaxUint64)
		w, errW := r.Word()
		c, errC := r.Byte()
		s, errS := r.Text(9)
		l, errL := r.Texts(9, 9)
		for _, err := range []error{errX, errW, errC, errS, errL, r.End()} {
			faulty(t, "no reader", err, api.ErrNil, -1)
		}
		if x != 0 || w != 0 || c != 0 || s != "" || len(l) != 0 {
			t.Errorf("no reader tells %d, %d, %d, %q, %q", x, w, c, s, l)
		}
		stays(t, "no reader", r, 0, "")
	}
}

// Two readers of the same bytes have each a place of their own, and their lists share nothing.
func TestP01Apart(t *testing.T) {
	s := code.Texts("a", "b") + "c"
	one, two := code.New(s), code.New(s)
	l, _ := one.Texts(9, 9)
	stays(t, "the other reader", two, 0, s)
	m, _ := two.Texts(9, 9)
	for i := range l[:cap(l)] {
		l[:cap(l)][i] = "changed"
	}
	if !slices.Equal(m, []string{"a", "b"}) {
		t.Errorf("a list that was read is changed by another one: %q", m)
	}
	stays(t, "a reader", one, len(s)-1, "c")
}

// The fault of one call is not the next one's.
func TestP01Faults(t *testing.T) {
	r := code.New("\x05\x80")
	_, first := r.Uint(4)
	r.Byte()
	_, second := r.Uint(4)
	faulty(t, "the first", first, api.ErrMost, 0)
	faulty(t, "the second", second, api.ErrShort, 1)
}
