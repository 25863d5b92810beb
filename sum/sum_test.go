package sum_test

import (
	"fmt"
	"hash/fnv"
	"math"
	"slices"
	"strings"
	"testing"

	"yankline/api"
	"yankline/sum"
)

const nothing = 14695981039346656037

// known are sums of FNV-1a of 64 bits that are told elsewhere, and some of bytes that are no runes.
var known = []struct {
	text string
	sum  uint64
}{
	{"", nothing},
	{"a", 12638187200555641996},
	{"b", 0xaf63df4c8601f1a5},
	{"foobar", 0x85944171f73967e8},
	{"\x00", 0xaf63bd4c8601b7df},
	{"\xff", 0xaf64724c8602eb6e},
}

// texts are ordinary and odd ones: of all lengths about a word's, of all bytes, of bytes that are no runes, long.
func texts() []string {
	l := []string{"", "a", "ab", "foo-bar 1.0.0", "\x00", "\x00\x00", "\xff", "\x80\xc3", "ä€\U0001f600"}
	for n := range 20 {
		l = append(l, strings.Repeat("x", n))
	}
	every := make([]byte, 256)
	for i := range every {
		every[i] = byte(i)
	}
	return append(l, string(every), strings.Repeat(string(every), 300), strings.Repeat("\x00", 1<<16))
}

// sums are such whose digits are all of them, at all places, and the edges of what a word holds.
func sums() []uint64 {
	l := []uint64{0, 1, 9, 10, 15, 16, 255, 0x0123456789abcdef, 0xfedcba9876543210, 1 << 63, 1<<63 - 1, math.MaxUint64, nothing}
	for place := range 16 {
		for digit := range uint64(16) {
			l = append(l, digit<<(4*place))
		}
	}
	return l
}

func TestP11OfKnown(t *testing.T) {
	for _, k := range known {
		if got := sum.Of(k.text); got != k.sum {
			t.Errorf("Of(%q) = %d, want %d", k.text, got, k.sum)
		}
	}
}

func TestP11OfIsFNV(t *testing.T) {
	for _, s := range texts() {
		h := fnv.New64a()
		h.Write([]byte(s))
		if got, want := sum.Of(s), h.Sum64(); got != want {
			t.Errorf("Of of %d bytes = %d, want %d", len(s), got, want)
		}
	}
}

func TestP11More(t *testing.T) {
	for _, from := range sums() {
		if got := sum.More(from, ""); got != from {
			t.Errorf("More(%d, nothing) = %d", from, got)
		}
		for _, s := range []string{"a", "\x00", "\xff", "\x80\xc3"} {
			want := from
			for _, c := range []byte(s) {
				want = (want ^ uint64(c)) * 1099511628211
			}
			if got := sum.More(from, s); got != want {
				t.Errorf("More(%d, %q) = %d, want %d", from, s, got, want)
			}
		}
	}
	if got := sum.More(nothing, "a"); got != sum.Of("a") {
		t.Errorf("More behind no bytes, a = %d", got)
	}
}

func TestP11All(t *testing.T) {
	if sum.All() != nothing || sum.All([]string{}...) != nothing || sum.All("") != nothing || sum.All("", "") != nothing {
		t.Error("All of no bytes is not the sum of no bytes")
	}
	if got := sum.All("a", "b"); got != sum.Of("ab") {
		t.Errorf("All(a, b) = %d, want Of(ab)", got)
	}
	if sum.All("a", "b") == sum.All("b", "a") {
		t.Error("All does not hang on the order of its texts")
	}
	for _, l := range [][]string{{"a"}, {"", "a"}, {"a", ""}, {"a", "", "b"}, {"ab", "c"}, {"a", "bc"}, {"\xc3", "\xa4"}, texts()} {
		if got, want := sum.All(l...), sum.Of(strings.Join(l, "")); got != want {
			t.Errorf("All of %d texts = %d, want %d", len(l), got, want)
		}
	}
}

func TestP12Text(t *testing.T) {
	for _, c := range []struct {
		sum  uint64
		text string
	}{
		{0, "0000000000000000"},
		{255, "00000000000000ff"},
		{1 << 60, "1000000000000000"},
		{0x0123456789abcdef, "0123456789abcdef"},
		{math.MaxUint64, "ffffffffffffffff"},
	} {
		if got := sum.Text(c.sum); got != c.text {
			t.Errorf("Text(%d) = %s, want %s", c.sum, got, c.text)
		}
	}
	for _, n := range sums() {
		if got, want := sum.Text(n), fmt.Sprintf("%016x", n); got != want {
			t.Errorf("Text(%d) = %s, want %s", n, got, want)
		}
	}
}

func TestP12Read(t *testing.T) {
	for _, n := range sums() {
		s := fmt.Sprintf("%016x", n)
		if got, e := sum.Read(s); got != n || e != api.OK {
			t.Errorf("Read(%s) = %d, %v", s, got, e)
		}
	}
}

func TestP12ReadNone(t *testing.T) {
	for _, s := range []string{
		"", "f", "ff", "000000000000000", "00000000000000000", "000000000000000000000000000000ff",
		"00000000000000FF", "ABCDEF0000000000", "0x000000000000ff", "0X000000000000ff",
		"+0000000000000ff", "-0000000000000ff", " 0000000000000ff", "0000000000000ff ", "0000000000000ff\n",
		"0000_0000_0000_0", "000000000000000g", "000000000000000\x00", "00000000000000ff\x00",
		"00000000000000é", "００００００００００００００００", strings.Repeat("0", 1<<20), "\xff\xff",
	} {
		refused(t, s)
	}
}

// Each byte that is no digit spoils a sum's text, wherever it stands.
func TestP12ReadEachByte(t *testing.T) {
	for place := range 16 {
		for c := range 256 {
			b := []byte("0123456789abcdef")
			b[place] = byte(c)
			if strings.IndexByte("0123456789abcdef", byte(c)) < 0 {
				refused(t, string(b))
			} else if n, e := sum.Read(string(b)); e != api.OK || sum.Text(n) != string(b) {
				t.Errorf("Read(%s) = %d, %v", b, n, e)
			}
		}
	}
}

// refused holds that s is no sum's text, and that nothing is told beside the error.
func refused(t *testing.T, s string) {
	t.Helper()
	if n, e := sum.Read(s); n != 0 || e != api.ErrHex {
		t.Errorf("Read(%.40q) = %d, %v, want 0, ErrHex", s, n, e)
	}
}

func TestP13Both(t *testing.T) {
	for _, a := range texts() {
		for _, b := range texts() {
			if sum.Of(a+b) != sum.More(sum.Of(a), b) {
				t.Errorf("Of of %d and %d bytes is not More of Of", len(a), len(b))
			}
		}
	}
}

func TestP13OneByte(t *testing.T) {
	for _, s := range []string{"a", "ab", "\x00\x00\x00", "foo-bar 1.0.0", strings.Repeat("\xff", 40)} {
		for place := range len(s) {
			seen := map[uint64]bool{}
			for c := range 256 {
				b := []byte(s)
				b[place] = byte(c)
				seen[sum.Of(string(b))] = true
			}
			if len(seen) != 256 {
				t.Errorf("%q with each byte at %d: %d sums, want 256", s, place, len(seen))
			}
		}
	}
}

func TestP13ThereAndBack(t *testing.T) {
	l := sums()
	for _, s := range texts() {
		l = append(l, sum.Of(s))
	}
	for _, n := range l {
		if got, e := sum.Read(sum.Text(n)); got != n || e != api.OK {
			t.Errorf("Read(Text(%d)) = %d, %v", n, got, e)
		}
	}
}

// What is handed in stays as it was, its spare room too.
func TestP01HandedIn(t *testing.T) {
	room := []string{"a", "b", "spare"}
	sum.All(room[:2]...)
	if !slices.Equal(room, []string{"a", "b", "spare"}) {
		t.Errorf("All changed its texts: %q", room)
	}
}

// A call answers the same whatever was called before.
func TestP01Again(t *testing.T) {
	of, all, text := sum.Of("ab"), sum.All("a", "b"), sum.Text(255)
	sum.Of("other")
	sum.All("o", "t")
	sum.More(7, "her")
	sum.Text(1)
	sum.Read("no sum's")
	if sum.Of("ab") != of || sum.All("a", "b") != all || sum.Text(255) != text {
		t.Error("an answer hangs on calls ahead of it")
	}
	if n, e := sum.Read("00000000000000ff"); n != 255 || e != api.OK {
		t.Errorf("Read(00000000000000ff) = %d, %v", n, e)
	}
}
