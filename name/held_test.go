package name_test

import (
	"regexp"
	"slices"
	"strings"
	"testing"

	"yankline/api"
	"yankline/name"
)

var reserved = []string{"yankline", "registry", "index", "log", "page", "blob"}

func TestP62Reserved(t *testing.T) {
	for _, word := range reserved {
		for _, raw := range []string{word, strings.ToUpper(word), word[:1] + "-" + word[1:], word[:2] + "_.-" + word[2:], strings.Join(strings.Split(word, ""), ".")} {
			if !name.Reserved(raw) {
				t.Errorf("Reserved(%q) = false", raw)
			}
		}
		for _, raw := range []string{word + "s", "x" + word, word + "-1", word[1:], word[:len(word)-1], "-" + word, word + "-", " " + word, word + "\x00", word + "\xff", word[:1] + " " + word[1:], word + strings.Repeat(".", 64)} {
			if name.Reserved(raw) {
				t.Errorf("Reserved(%q) = true", raw)
			}
		}
	}
	for _, raw := range []string{"Yank-Line", "L-og", "b" + strings.Repeat("_", 60) + "lob"} {
		if !name.Reserved(raw) {
			t.Errorf("Reserved(%q) = false", raw)
		}
	}
	for _, raw := range []string{"", "-", "logs", "b" + strings.Repeat("_", 61) + "lob", "yank", "line", "l0g", "api", "world", "yan\u212aline"} {
		if name.Reserved(raw) {
			t.Errorf("Reserved(%q) = true", raw)
		}
	}
}

func TestP62ReservedModel(t *testing.T) {
	for _, raw := range append(few(), all()...) {
		form, ok := model(raw)
		if got := name.Reserved(raw); got != (ok && slices.Contains(reserved, strings.ReplaceAll(form, "-", ""))) {
			t.Errorf("Reserved(%.80q) = %t", raw, got)
		}
	}
}

func TestP62Holder(t *testing.T) {
	for _, s := range []string{"alice", "alice2", "a", "z", "a0", "a9b", "bob", "abcdefghijklmnopqrstuvwxyz", "x0123456789", strings.Repeat("a", 63), strings.Repeat("a", 64), "a" + strings.Repeat("0", 63)} {
		if e := name.Holder(s); e != api.OK {
			t.Errorf("Holder(%q) = %v", s, e)
		}
	}
	for _, s := range []string{
		"", "2alice", "Alice", "aLice", "alicE", "0", "9", "42", "-", "a-b", "a_b", "a.b", "-a", "a-", "a b", " a", "a ", "a\n", "a\x00", "a`", "a{", "a/", "a:", "`", "{",
		"ä", "aä", "a\xff", "\xff", "a\x80", "\u212a", "a\u017f", "a\u0660", "\uff41", "a\ufffd", "a\xe1",
		strings.Repeat("a", 65), "a" + strings.Repeat("0", 64), strings.Repeat("0", 64), strings.Repeat("ä", 32), strings.Repeat("a", 1<<20), strings.Repeat("\xff", 1<<20),
	} {
		if e := name.Holder(s); e != api.ErrHolder {
			t.Errorf("Holder(%.80q) = %v, want ErrHolder", s, e)
		}
	}
}

func TestP62HolderModel(t *testing.T) {
	holder := regexp.MustCompile(`^[a-z][a-z0-9]{0,63}$`)
	for _, s := range append(few(), all()...) {
		want := api.ErrHolder
		if holder.MatchString(s) {
			want = api.OK
		}
		if e := name.Holder(s); e != want {
			t.Errorf("Holder(%.80q) = %v, want %v", s, e, want)
		}
	}
}

func TestP62Sort(t *testing.T) {
	for _, c := range []struct{ l, want []string }{
		{nil, nil},
		{[]string{}, nil},
		{[]string{"a"}, []string{"a"}},
		{[]string{"A", "a"}, []string{"a"}},
		{[]string{"b", "A"}, []string{"a", "b"}},
		{[]string{"b", "A", "a", "B", "b"}, []string{"a", "b"}},
		{[]string{"foobar", "Foo_Bar", "foo.bar", "foo-bar"}, []string{"foo-bar", "foobar"}},
		{[]string{"ab", "a0", "a-b", "a", "B", "10", "9", "aB", "Z"}, []string{"10", "9", "a", "a-b", "a0", "ab", "b", "z"}},
		{[]string{"c", "b", "a", "C", "c", "a"}, []string{"a", "b", "c"}},
	} {
		if got, e := name.Sort(c.l...); !slices.Equal(got, c.want) || e != api.OK {
			t.Errorf("Sort(%q) = %q, %v, want %q", c.l, got, e, c.want)
		}
	}
}

func TestP62SortNone(t *testing.T) {
	for _, l := range [][]string{{"b", "A", "a_"}, {"a_", "b", "A"}, {"b", "a_", "A"}, {""}, {"", ""}, {"a", ""}, {"-"}, {"\xff", "a"}, {"a", "A", strings.Repeat("a", 65)}} {
		if got, e := name.Sort(l...); len(got) != 0 || e != api.ErrName {
			t.Errorf("Sort(%.80q) = %q, %v, want none, ErrName", l, got, e)
		}
	}
	// wherever it stands
	for at := range 40 {
		l := make([]string, 40)
		for i := range l {
			l[i] = string(rune('a' + i%26))
		}
		l[at] = "."
		if got, e := name.Sort(l...); len(got) != 0 || e != api.ErrName {
			t.Errorf("Sort with none at %d = %q, %v", at, got, e)
		}
	}
}

// The forms of many names: the same ones, whatever order they come in.
func TestP62SortMany(t *testing.T) {
	var l, want []string
	for _, raw := range append(few(), shorts()...) {
		if form, ok := model(raw); ok {
			l, want = append(l, raw), append(want, form)
		}
	}
	slices.Sort(want)
	want = slices.Compact(want)
	for range 3 {
		if got, e := name.Sort(l...); !slices.Equal(got, want) || e != api.OK {
			t.Errorf("Sort of %d names: %d forms, %v, want %d", len(l), len(got), e, len(want))
		}
		slices.Reverse(l[:len(l)/2])
		slices.Reverse(l)
	}
}

func TestP63NormOfNorm(t *testing.T) {
	for _, raw := range all() {
		form, e := name.Norm(raw)
		if e != api.OK {
			continue
		}
		normal(t, form, form)
		if !name.Is(form) || !name.Same(raw, form) {
			t.Errorf("the form %q of %q: Is %t, Same %t", form, raw, name.Is(form), name.Same(raw, form))
		}
	}
}

func TestP63SameIsAnEquivalence(t *testing.T) {
	l := few()
	for _, a := range l {
		if _, e := name.Norm(a); name.Same(a, a) != (e == api.OK) {
			t.Errorf("Same(%.80q, itself) = %t", a, name.Same(a, a))
		}
		for _, b := range l {
			if name.Same(a, b) != name.Same(b, a) {
				t.Errorf("Same of %.80q and %.80q holds one way", a, b)
			}
			if !name.Same(a, b) {
				continue
			}
			for _, c := range l {
				if name.Same(b, c) != name.Same(a, c) {
					t.Errorf("Same of %.80q, %.80q, %.80q", a, b, c)
				}
			}
		}
	}
}

func TestP63LikeBothWays(t *testing.T) {
	l := few()
	for _, a := range l {
		if name.Like(a, a) {
			t.Errorf("Like(%.80q, itself)", a)
		}
		for _, b := range l {
			if name.Like(a, b) != name.Like(b, a) {
				t.Errorf("Like of %.80q and %.80q holds one way", a, b)
			}
			if name.Like(a, b) && name.Same(a, b) {
				t.Errorf("Like and Same of %.80q and %.80q", a, b)
			}
		}
	}
}

func TestP63ReservedGoesOn(t *testing.T) {
	l := few()
	met := 0
	for _, a := range l {
		for _, b := range l {
			if !name.Same(a, b) && !name.Like(a, b) {
				continue
			}
			if name.Reserved(a) != name.Reserved(b) {
				t.Errorf("Reserved(%q) = %t, and of %q %t", a, name.Reserved(a), b, name.Reserved(b))
			}
			if name.Reserved(a) {
				met++
			}
		}
	}
	if met < 100 {
		t.Errorf("but %d pairs of reserved names", met)
	}
}

// What is handed in stays as it was, its spare room too.
func TestP01HandedIn(t *testing.T) {
	for _, l := range [][]string{{"c", "B", "a", "b", "spare"}, {"c", "b", "a", "a", "spare"}, {"a", "_", "b", "a", "spare"}} {
		room := slices.Clone(l)
		name.Sort(room[:4]...)
		if !slices.Equal(room, l) {
			t.Errorf("Sort changed its names %q: %q", l, room)
		}
	}
}

// An answer may be written over, its spare room too: neither what was handed in nor another answer changes.
func TestP01NewMemory(t *testing.T) {
	for _, l := range [][]string{{"a"}, {"a", "b"}, {"b", "a", "A", "c", "C"}, {"a", "b", "c", "d"}} {
		handed := slices.Clone(l)
		first, _ := name.Sort(handed...)
		second, _ := name.Sort(handed...)
		want := slices.Clone(second)
		first = first[:cap(first)]
		for i := range first {
			first[i] = "written over"
		}
		third, e := name.Sort(handed...)
		if !slices.Equal(handed, l) || !slices.Equal(second, want) || !slices.Equal(third, want) || e != api.OK {
			t.Errorf("an answer of Sort(%q) shares memory", l)
		}
	}
}

// A call answers the same whatever was called before.
func TestP01Again(t *testing.T) {
	form, _ := name.Norm("Foo__Bar")
	squash, _ := name.Squash("a-b.c")
	for _, s := range nones() {
		name.Norm(s)
		name.Squash(s)
		name.Sort(s, "other")
		name.Holder(s)
	}
	for _, a := range raws() {
		name.Same(a, "foo-bar")
		name.Like("foobar", a)
		name.Reserved(a)
		name.Is(a)
		name.Sort(a, "Other", "log")
	}
	if f, e := name.Norm("Foo__Bar"); f != form || e != api.OK {
		t.Errorf("Norm(Foo__Bar) = %q, %v, and %q ahead", f, e, form)
	}
	if s, e := name.Squash("a-b.c"); s != squash || e != api.OK {
		t.Errorf("Squash(a-b.c) = %q, %v, and %q ahead", s, e, squash)
	}
	if !name.Same("foo_bar", "FOO.bar") || !name.Like("foobar", "foo-bar") || !name.Reserved("Yank-Line") || name.Holder("alice2") != api.OK {
		t.Error("an answer hangs on calls ahead of it")
	}
}
