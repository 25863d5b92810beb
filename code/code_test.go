package code_test

import (
	"encoding/binary"
	"math"
	"slices"
	"strings"
	"testing"

	"yankline/code"
)

// numbers are the edges of each length that a number can have as bytes, and ordinary ones.
func numbers() []uint64 {
	l := []uint64{0, 1, 9, 100, 127, 128, 129, 255, 256, 300, 0x0123456789abcdef, math.MaxInt64, math.MaxUint64}
	for shift := range 64 {
		one := uint64(1) << shift
		l = append(l, one-1, one, one+1, ^one)
	}
	return l
}

// texts are ordinary ones, ones of bytes that are no runes, and ones whose lengths are about the edges of their numbers.
func texts() []string {
	l := []string{"", "a", "ab", "foo-bar", "\x00", "\x80", "\xff\xff", "ä€", "\x01a", "\x02"}
	for _, n := range []int{126, 127, 128, 129, 16383, 16384} {
		l = append(l, strings.Repeat("x", n))
	}
	return l
}

// lists are lists of few texts, among them ones that are alike when their texts are joined.
func lists() [][]string {
	l := [][]string{nil, {}, {"ab", ""}, {"", "ab"}, {"a", "b"}, {"a", "b", ""}, {"ab"}, {"a"}, {"\x00"}, {"\x01a"}, {"\x01", "a"}, {"", "", ""}, texts(), make([]string, 128), make([]string, 200)}
	few := []string{"", "a", "\x00", "\x01a"}
	for _, a := range few {
		for _, b := range few {
			l = append(l, []string{a, b})
			for _, c := range few {
				l = append(l, []string{a, b, c})
			}
		}
	}
	return l
}

func TestP21Uint(t *testing.T) {
	for _, c := range []struct {
		x     uint64
		bytes string
	}{
		{0, "\x00"},
		{1, "\x01"},
		{127, "\x7f"},
		{128, "\x80\x01"},
		{300, "\xac\x02"},
		{16383, "\xff\x7f"},
		{16384, "\x80\x80\x01"},
		{1<<63 - 1, "\xff\xff\xff\xff\xff\xff\xff\xff\x7f"},
		{1 << 63, "\x80\x80\x80\x80\x80\x80\x80\x80\x80\x01"},
		{math.MaxUint64, "\xff\xff\xff\xff\xff\xff\xff\xff\xff\x01"},
	} {
		if got := code.Uint(c.x); got != c.bytes {
			t.Errorf("Uint(%d) = % x, want % x", c.x, got, c.bytes)
		}
	}
	for _, x := range numbers() {
		if got, want := code.Uint(x), string(binary.AppendUvarint(nil, x)); got != want {
			t.Errorf("Uint(%d) = % x, want % x", x, got, want)
		}
	}
}

func TestP21Word(t *testing.T) {
	if got := code.Word(0x0123456789abcdef); got != "\x01\x23\x45\x67\x89\xab\xcd\xef" {
		t.Errorf("Word = % x", got)
	}
	for _, x := range numbers() {
		if got, want := code.Word(x), string(binary.BigEndian.AppendUint64(nil, x)); got != want {
			t.Errorf("Word(%d) = % x, want % x", x, got, want)
		}
	}
}

func TestP21Text(t *testing.T) {
	if got := code.Text("ab"); got != "\x02ab" {
		t.Errorf("Text(ab) = % x", got)
	}
	for _, s := range texts() {
		if got, want := code.Text(s), string(binary.AppendUvarint(nil, uint64(len(s))))+s; got != want {
			t.Errorf("Text of %d bytes = %.40q, want %.40q", len(s), got, want)
		}
	}
}

func TestP21Texts(t *testing.T) {
	if got := code.Texts("a", ""); got != "\x02\x01a\x00" {
		t.Errorf("Texts(a, nothing) = % x", got)
	}
	if code.Texts() != "\x00" || code.Texts([]string{}...) != "\x00" || code.Texts("") != "\x01\x00" {
		t.Errorf("Texts of none = % x, of nothing = % x", code.Texts(), code.Texts(""))
	}
	for _, l := range lists() {
		want := string(binary.AppendUvarint(nil, uint64(len(l))))
		for _, s := range l {
			want += code.Text(s)
		}
		if got := code.Texts(l...); got != want {
			t.Errorf("Texts of %d texts = %.40q, want %.40q", len(l), got, want)
		}
	}
}

func TestP21New(t *testing.T) {
	for _, s := range texts() {
		r := code.New(s)
		if r == nil || r.At() != 0 || r.Rest() != s {
			t.Errorf("New of %d bytes is no reader at 0", len(s))
		}
	}
}

// Of two unlike lists neither one's bytes begin with the other one's.
func TestP25NoBeginning(t *testing.T) {
	for _, a := range lists() {
		for _, b := range lists() {
			if !slices.Equal(a, b) && strings.HasPrefix(code.Texts(a...), code.Texts(b...)) {
				t.Errorf("the bytes of %.40q begin with those of %.40q", a, b)
			}
		}
	}
}

// What is handed in stays as it was, its spare room too.
func TestP01HandedIn(t *testing.T) {
	room := []string{"a", "b", "spare"}
	code.Texts(room[:2]...)
	if !slices.Equal(room, []string{"a", "b", "spare"}) {
		t.Errorf("Texts changed its texts: %q", room)
	}
}
