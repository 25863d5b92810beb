package name_test

import (
	"regexp"
	"strings"
	"testing"

	"yankline/api"
	"yankline/name"
)

var (
	rawName    = regexp.MustCompile(`^[A-Za-z0-9]([-_.A-Za-z0-9]*[A-Za-z0-9])?$`)
	separators = regexp.MustCompile(`[-_.]+`)
)

// model is the one form as the chapter's words say it, and whether raw may be.
func model(raw string) (string, bool) {
	// $ holds at the very end alone: without the flag m it is not ahead of a line's end
	if len(raw) > 64 || !rawName.MatchString(raw) {
		return "", false
	}
	return separators.ReplaceAllString(strings.ToLower(raw), "-"), true
}

// raws are ordinary names and odd ones, at the edges of how long they may be.
func raws() []string {
	return []string{
		"a", "A", "0", "9", "z", "Z", "ab", "a1", "1a", "42", "foobar", "foo-bar", "foo_bar", "FOO.bar", "Foo__Bar", "a.-b", "a-b.c", "a-b-c",
		"a.b", "a_b", "A-_.b", "ab-c", "a-bc", "a-_-_-b", "0-0", "L-og", "log", "LOG", "yankline", "Yank-Line", "y.a.n.k.l.i.n.e", "logs", "x-log", "blo", "blobs",
		"abcdefghijklmnopqrstuvwxyz", "ABCDEFGHIJKLMNOPQRSTUVWXYZ", "0123456789",
		"yanklin-e", "registry", "re-gistry", "index", "page", "pa_ge", "blob", "B.L.O.B",
		strings.Repeat("a", 63), strings.Repeat("a", 64), strings.Repeat("Z", 64), strings.Repeat("0", 64),
		"a" + strings.Repeat("-", 62) + "b", "a" + strings.Repeat("_.", 31) + "b", strings.Repeat("a-", 31) + "ab", strings.Repeat("A_", 31) + "b",
	}
}

// nones are texts that may not be names, each by something of its own.
func nones() []string {
	return []string{
		"", "-", "_", ".", "--", "-a", "_a", ".a", "a-", "a_", "a.", "-a-", "a--", "..a", "a b", " a", "a ", "a\n", "\na", "a\x00", "\x00", "a\x00b", "a\tb",
		"a@b", "a[b", "a`b", "a{b", "a/b", "a:b", "a,b", "a+b", "a~b", "a*b", "a\\b", "a\x7fb", "@", "[", "`", "{", "/", ":",
		"ä", "aäb", "é", "a\u212ab", "\u212aelvin", "a\u017f", "\u0130", "\uff21", "a\uff41b", "a\uff11b", "a\u2010b", "a\u2013b", "a\u0660b", "a\u00adb", "\ufeffa", "a\u0301b", "日本",
		"\xff", "a\xffb", "a\x80b", "\x80", "a\xc1\x81b", "\xc1\x81", "a\xe1b", "a\xadb", "a\xaeb", "a\xdfb", "\ufffd", "a\ufffdb", "a\U0001f600b", "\xed\xa0\x80",
		strings.Repeat("a", 65), strings.Repeat("a", 128), "a" + strings.Repeat("-", 63) + "b", strings.Repeat("-", 64), "-" + strings.Repeat("a", 63), strings.Repeat("a", 63) + "-",
		strings.Repeat("a", 64) + "-", strings.Repeat("ä", 32), strings.Repeat("a", 1<<20), strings.Repeat("-", 1<<20), strings.Repeat("\xff", 1<<20),
	}
}

// shorts are all texts of up to five of the bytes in which something changes.
func shorts() []string {
	l := []string{""}
	for from, n := 0, 0; n < 5; n++ {
		to := len(l)
		for _, s := range l[from:to] {
			for _, c := range []byte("aB0-_.!\xc3") {
				l = append(l, s+string([]byte{c}))
			}
		}
		from = to
	}
	return l
}

// everyByte are three names with each byte there can be at each place, and behind them.
func everyByte() []string {
	var l []string
	for _, s := range []string{"a", "abcd", "a-b-c", strings.Repeat("x", 64)} {
		for at := range len(s) {
			for c := range 256 {
				b := []byte(s)
				b[at] = byte(c)
				l = append(l, string(b))
			}
		}
		for c := range 256 {
			l = append(l, s+string([]byte{byte(c)}))
		}
	}
	return l
}

// all are the texts of the lists above.
func all() []string {
	l := append(raws(), nones()...)
	l = append(l, shorts()...)
	return append(l, everyByte()...)
}

// few are names and texts that are none, few enough to hold each against each: of each form and squash several.
func few() []string {
	l := append(raws(), nones()[:40]...)
	for _, a := range []string{"", "-", "_", "--"} {
		for _, b := range []string{"", ".", "-"} {
			l = append(l, "l"+a+"o"+b+"g", "L"+a+"O"+b+"g", "x"+a+"y"+b+"z", "x"+a+b+"Y"+"Z")
		}
	}
	return l
}

// normal holds that raw is a name whose one form is want.
func normal(t *testing.T, raw, want string) {
	t.Helper()
	if got, e := name.Norm(raw); got != want || e != api.OK {
		t.Errorf("Norm(%q) = %q, %v, want %q", raw, got, e, want)
	}
}

// refused holds that raw is no name, and that nothing is told beside the error.
func refused(t *testing.T, raw string) {
	t.Helper()
	if got, e := name.Norm(raw); got != "" || e != api.ErrName {
		t.Errorf("Norm(%.80q) = %q, %v, want nothing, ErrName", raw, got, e)
	}
	if got, e := name.Squash(raw); got != "" || e != api.ErrName {
		t.Errorf("Squash(%.80q) = %q, %v, want nothing, ErrName", raw, got, e)
	}
	if name.Is(raw) || name.Reserved(raw) {
		t.Errorf("%.80q is no name: Is %t, Reserved %t", raw, name.Is(raw), name.Reserved(raw))
	}
}

func TestP61NormExamples(t *testing.T) {
	normal(t, "Foo__Bar", "foo-bar")
	normal(t, "a.-b", "a-b")
	refused(t, "-a")
	refused(t, "")
}

func TestP61NormNames(t *testing.T) {
	for _, c := range []struct{ raw, form string }{
		{"a", "a"}, {"Z", "z"}, {"7", "7"}, {"foo-bar", "foo-bar"}, {"Foo_Bar", "foo-bar"}, {"foo.bar", "foo-bar"},
		{"a_b_c", "a-b-c"}, {"A-_.B", "a-b"}, {"1.0", "1-0"}, {"a---b..c", "a-b-c"},
		{"ABCDEFGHIJKLMNOPQRSTUVWXYZ", "abcdefghijklmnopqrstuvwxyz"}, {"abcdefghijklmnopqrstuvwxyz", "abcdefghijklmnopqrstuvwxyz"}, {"0123456789", "0123456789"},
		{strings.Repeat("A", 64), strings.Repeat("a", 64)},
		{"a" + strings.Repeat(".", 62) + "b", "a-b"},
		{strings.Repeat("a_", 31) + "Ab", strings.Repeat("a-", 31) + "ab"},
	} {
		normal(t, c.raw, c.form)
	}
}

func TestP61NormNone(t *testing.T) {
	for _, raw := range nones() {
		refused(t, raw)
	}
}

// It is the raw name that may have so many bytes, not its form.
func TestP61NormLong(t *testing.T) {
	for n := range 140 {
		raw := "a" + strings.Repeat("-", n) + "b"
		if n == 0 {
			normal(t, raw, "ab")
		} else if n+2 <= api.MaxName {
			normal(t, raw, "a-b")
		} else {
			refused(t, raw)
		}
		raw = strings.Repeat("Q", n)
		if 1 <= n && n <= api.MaxName {
			normal(t, raw, strings.Repeat("q", n))
		} else {
			refused(t, raw)
		}
	}
}

func TestP61NormModel(t *testing.T) {
	for _, raw := range all() {
		if form, ok := model(raw); ok {
			normal(t, raw, form)
		} else {
			refused(t, raw)
		}
	}
}

func TestP61Is(t *testing.T) {
	for _, s := range []string{"a", "0", "foo-bar", "a-b-c", "1-0", strings.Repeat("z", 64)} {
		if !name.Is(s) {
			t.Errorf("Is(%q) = false", s)
		}
	}
	for _, s := range []string{"A", "Foo", "fooB", "a_b", "a.b", "a--b", "a-.b", "-a", "a-", "-", "", strings.Repeat("z", 65), "ä", "a\xffb", " a"} {
		if name.Is(s) {
			t.Errorf("Is(%q) = true", s)
		}
	}
	for _, s := range all() {
		form, ok := model(s)
		if got := name.Is(s); got != (ok && form == s) {
			t.Errorf("Is(%.80q) = %t", s, got)
		}
	}
}

func TestP61SameAndLike(t *testing.T) {
	for _, c := range []struct {
		a, b       string
		same, like bool
	}{
		{"foo_bar", "FOO.bar", true, false},
		{"foobar", "foo-bar", false, true},
		{"foo_bar", "foo-bar", true, false},
		{"foo-bar", "fo-obar", false, true},
		{"foo", "foo", true, false},
		{"foo", "FOO", true, false},
		{"foo", "fo0", false, false},
		{"foo", "bar", false, false},
		{"a-b", "a--b", true, false},
		{"A_B", "aB", false, true},
		{"foo", "", false, false},
		{"", "", false, false},
		{"-", "-", false, false},
		{"-", "_", false, false},
		{"foo-", "foo-", false, false},
		{"foo-", "foo", false, false},
		{"foo", "-foo", false, false},
		{"\xff", "\xff", false, false},
		{"a b", "ab", false, false},
		{"\u212a", "k", false, false},
		{strings.Repeat("a", 64), strings.Repeat("A", 64), true, false},
		{strings.Repeat("a", 64), strings.Repeat("a", 65), false, false},
		{strings.Repeat("a", 65), strings.Repeat("a", 65), false, false},
		{"a" + strings.Repeat("-", 62) + "b", "a-b", true, false},
		{"a" + strings.Repeat("-", 62) + "b", "ab", false, true},
		{"a" + strings.Repeat("-", 63) + "b", "ab", false, false},
	} {
		if got := name.Same(c.a, c.b); got != c.same {
			t.Errorf("Same(%.80q, %.80q) = %t", c.a, c.b, got)
		}
		if got := name.Like(c.a, c.b); got != c.like {
			t.Errorf("Like(%.80q, %.80q) = %t", c.a, c.b, got)
		}
	}
}

func TestP61SameAndLikeModel(t *testing.T) {
	l := few()
	for _, a := range l {
		for _, b := range l {
			x, okX := model(a)
			y, okY := model(b)
			both := okX && okY
			squash := strings.ReplaceAll(x, "-", "") == strings.ReplaceAll(y, "-", "")
			if got := name.Same(a, b); got != (both && x == y) {
				t.Errorf("Same(%.80q, %.80q) = %t", a, b, got)
			}
			if got := name.Like(a, b); got != (both && x != y && squash) {
				t.Errorf("Like(%.80q, %.80q) = %t", a, b, got)
			}
		}
	}
}

func TestP61Squash(t *testing.T) {
	for _, c := range []struct{ raw, squash string }{
		{"a-b.c", "abc"}, {"a", "a"}, {"Foo__Bar", "foobar"}, {"foobar", "foobar"}, {"1.0-0", "100"}, {strings.Repeat("a-", 31) + "ab", strings.Repeat("a", 32) + "b"},
	} {
		if got, e := name.Squash(c.raw); got != c.squash || e != api.OK {
			t.Errorf("Squash(%q) = %q, %v, want %q", c.raw, got, e, c.squash)
		}
	}
	for _, raw := range all() {
		form, ok := model(raw)
		got, e := name.Squash(raw)
		if ok && (got != strings.ReplaceAll(form, "-", "") || e != api.OK) {
			t.Errorf("Squash(%q) = %q, %v", raw, got, e)
		}
		if !ok && (got != "" || e != api.ErrName) {
			t.Errorf("Squash(%.80q) = %q, %v, want nothing, ErrName", raw, got, e)
		}
	}
}
