package version_test

import (
	"math/big"
	"regexp"
	"slices"
	"strings"
	"testing"

	"yankline/api"
	"yankline/version"
)

const one = `(?:0|[1-9][0-9]*|[0-9]*[a-z-][0-9a-z-]*)`

var (
	form   = regexp.MustCompile(`^(0|[1-9][0-9]*)\.(0|[1-9][0-9]*)\.(0|[1-9][0-9]*)(?:-(` + one + `(?:\.` + one + `)*))?$`)
	number = regexp.MustCompile(`^[0-9]+$`)
	most   = big.NewInt(2147483647)
)

// model is the version whose text s is, as the chapter's words say it, and whether it is one's.
func model(s string) (api.Version, bool) {
	m := form.FindStringSubmatch(s)
	if m == nil || len(s) > 128 {
		return api.Version{}, false
	}
	var n [3]uint32
	for i := range n {
		x, _ := new(big.Int).SetString(m[i+1], 10)
		if x.Cmp(most) > 0 {
			return api.Version{}, false
		}
		n[i] = uint32(x.Uint64())
	}
	v := api.Version{Major: n[0], Minor: n[1], Patch: n[2]}
	if m[4] != "" {
		v.Pre = strings.Split(m[4], ".")
	}
	for _, s := range v.Pre {
		if len(s) > 16 {
			return api.Version{}, false
		}
	}
	return v, len(v.Pre) <= 8
}

// long is a version's text of n bytes, of which the seven identifiers ahead of the last one are as long as may be.
func long(n int) string {
	s := "1.0.0-" + strings.Repeat("abcdefghij-01234.", 7)
	return s + strings.Repeat("z", n-len(s))
}

// texts are those of versions, ordinary ones, odd ones and such at the edges.
func texts() []string {
	return []string{
		"0.0.0", "0.0.1", "0.1.0", "1.0.0", "1.2.3", "1.2.10", "1.10.2", "10.2.3", "2.0.0", "9.9.9", "10.0.0", "99.0.100", "1.0.2147483647",
		"2147483647.0.0", "0.2147483647.0", "0.0.2147483647", "2147483647.2147483647.2147483647", "2147483646.2147483646.2147483646", "2147483647.2147483647.2147483647-0",
		"0.0.0-0", "0.0.0-1", "0.0.0-a", "0.0.0--", "1.0.0-0", "1.0.0-1", "1.0.0-2", "1.0.0-9", "1.0.0-10", "1.0.0-0.0", "1.0.0-0.a", "1.0.0-1.0", "1.0.0-10.0",
		"1.0.0-a", "1.0.0-a.0", "1.0.0-a.0.0", "1.0.0-a.a", "1.0.0-a.b", "1.0.0-aa", "1.0.0-a0", "1.0.0-a-", "1.0.0-a--b", "1.0.0-b", "1.0.0-b.0", "1.0.0-rc", "1.0.0-rc.1", "1.0.0-rc.2", "1.0.0-rc.10", "1.0.0-rc1", "1.0.0-rc10", "1.0.0-rc2", "1.2.3-rc.1", "1.2.3-0", "1.2.3-a",
		"1.0.0--", "1.0.0---", "1.0.0--.-", "1.0.0--1", "1.0.0--0", "1.0.0--01", "1.0.0-0-", "1.0.0-00a", "1.0.0-0a", "1.0.0-01-", "1.0.0-9a", "1.0.0-10a", "1.0.0-1-", "1.0.0-z", "1.0.0-zz",
		"1.0.0-9999999999999999", "1.0.0-1000000000000000", "1.0.0-999999999999999", "1.0.0-2147483647", "1.0.0-2147483648", "1.0.0-4294967296", "1.0.0-000000000000000a", "1.0.0-aaaaaaaaaaaaaaaa", "1.0.0-aaaaaaaaaaaaaaaa.0",
		"1.0.0-a.b.c.d.e.f.g.h", "1.0.0-0.0.0.0.0.0.0.0", "1.0.0-0.0.0.0.0.0.0", "1.0.0-0.0.0.0.0.0.0.1", "0.0.0-abcdefghij.klmnopqrst.uvwxyz-0123.456789", long(127), long(128),
	}
}

// nones are texts of no versions, each by something of its own.
func nones() []string {
	return []string{
		"", ".", "..", "...", "1", "1.", "1.2", "1.2.", "1..2", ".1.2", "1.2.3.", "1.2.3.4", ".1.2.3", "1..2.3", "-", "-a", "1-a", "1.2-a", "1.2.-a", "..-0", "1.2.3.4-a",
		"01.0.0", "1.00.0", "1.0.00", "00.0.0", "1.0.01", "1.0.000", "+1.0.0", "1.+0.0", "1.0.-1", "-1.0.0", "1.-1.0", "1_0.0.0", "0x1.0.0", "1e1.0.0", "1.0.0+b", "v1.0.0", "=1.0.0", "1,0,0", "1.0.x", "1.0.*", "1.a.0", "a.b.c",
		" 1.0.0", "1.0.0 ", "1. 0.0", "1.0.0\n", "1.0.0\x00", "\x001.0.0", "1.0.0-a ", "1.0.0- a", "1.0.0-a\n", "1.0.0-a\x00",
		"1.0.0-", "1.0.0-.", "1.0.0-a.", "1.0.0-.a", "1.0.0-a..b", "1.0.0-01", "1.0.0-00", "1.0.0-a.01", "1.0.0-a.00", "1.0.0-01.a", "1.0.0-0123456789", "1.0.0-0000000000000000",
		"1.0.0-A", "1.0.0-aB", "1.0.0-a_b", "1.0.0-a+b", "1.0.0-a/b", "1.0.0-a:b", "1.0.0-a`", "1.0.0-a{", "1.0.0-é", "1.0.0-a\xff", "1.0.0-\x80", "1.0.0-\u0661", "1.0.0-\u212a", "1.0.0-\uff41", "\u0661.0.0", "1.0.\uff10", "1\u20240.0", "1.0.0\u2010a", "\xff.0.0", "1.0.0-\ufffd",
		"2147483648.0.0", "0.2147483648.0", "0.0.2147483648", "4294967295.0.0", "4294967296.0.0", "4294967297.0.0", "0.0.4294967296", "18446744073709551615.0.0", "18446744073709551616.0.0", "0.18446744073709551617.0", "99999999999999999999999999.0.0", strings.Repeat("9", 100) + ".0.0", strings.Repeat("9", 1<<20) + ".0.0",
		"1.0.0-aaaaaaaaaaaaaaaaa", "1.0.0-10000000000000000", "1.0.0-a.aaaaaaaaaaaaaaaaa", "1.0.0-a.b.c.d.e.f.g.h.i", "1.0.0-0.0.0.0.0.0.0.0.0", long(129), long(130), "1.0.0-" + strings.Repeat("a.", 1<<16), "1.0.0-" + strings.Repeat("a", 1<<20), strings.Repeat(".", 1<<20), strings.Repeat("-", 1<<20), strings.Repeat("\xff", 1<<20), "1.0.0" + strings.Repeat(" ", 1<<20),
	}
}

// shorts are all texts of up to seven of the bytes in which something changes.
func shorts() []string {
	l := []string{""}
	for from, n := 0, 0; n < 7; n++ {
		to := len(l)
		for _, s := range l[from:to] {
			for _, c := range []byte("01.-a") {
				l = append(l, s+string([]byte{c}))
			}
		}
		from = to
	}
	return l
}

// everyByte are three versions' texts with each byte there can be at each place, and behind them.
func everyByte() []string {
	var l []string
	for _, s := range []string{"1.2.3", "10.0.2-rc.10", "0.0.0-0.-"} {
		for c := range 256 {
			for at := range len(s) {
				b := []byte(s)
				b[at] = byte(c)
				l = append(l, string(b))
			}
			l = append(l, s+string([]byte{byte(c)}))
		}
	}
	return l
}

// all are the texts of the lists above.
func all() []string {
	l := append(texts(), nones()...)
	l = append(l, shorts()...)
	return append(l, everyByte()...)
}

// read is the version whose text s is.
func read(t *testing.T, s string) api.Version {
	t.Helper()
	v, e := version.Read(s)
	if e != api.OK {
		t.Fatalf("Read(%.80q): %v", s, e)
	}
	return v
}

func same(a, b api.Version) bool {
	return a.Major == b.Major && a.Minor == b.Minor && a.Patch == b.Patch && slices.Equal(a.Pre, b.Pre)
}

// nothing is whether v is the zero version, which stands beside an error.
func nothing(v api.Version) bool { return same(v, api.Version{}) }

// taken holds that s is the text of want.
func taken(t *testing.T, s string, want api.Version) {
	t.Helper()
	if v, e := version.Read(s); !same(v, want) || e != api.OK {
		t.Errorf("Read(%.80q) = %v, %v, want %v", s, v, e, want)
	}
	if e := version.May(want); e != api.OK {
		t.Errorf("May(%v) = %v", want, e)
	}
	if text, e := version.Text(want); text != s || e != api.OK {
		t.Errorf("Text(%v) = %q, %v, want %q", want, text, e, s)
	}
	if !version.Is(s) {
		t.Errorf("Is(%q) = false", s)
	}
}

// refused holds that s is the text of no version, and that nothing is told beside the error.
func refused(t *testing.T, s string) {
	t.Helper()
	if v, e := version.Read(s); !nothing(v) || e != api.ErrVersion {
		t.Errorf("Read(%.80q) = %v, %v, want nothing, ErrVersion", s, v, e)
	}
	if version.Is(s) {
		t.Errorf("Is(%.80q) = true", s)
	}
}

func TestP71ReadExamples(t *testing.T) {
	taken(t, "1.2.3-rc.1", api.Version{Major: 1, Minor: 2, Patch: 3, Pre: []string{"rc", "1"}})
	refused(t, "1.2")
	refused(t, "01.0.0")
	refused(t, "1.0.0-01")
	refused(t, "1.0.0-")
}

func TestP71ReadVersions(t *testing.T) {
	taken(t, "0.0.0", api.Version{})
	taken(t, "10.0.200", api.Version{Major: 10, Patch: 200})
	taken(t, "0.2147483647.0", api.Version{Minor: api.MaxNumber})
	taken(t, "2147483647.2147483647.2147483647", api.Version{Major: api.MaxNumber, Minor: api.MaxNumber, Patch: api.MaxNumber})
	taken(t, "1.0.0--", api.Version{Major: 1, Pre: []string{"-"}})
	taken(t, "1.0.0--1.a-b.0", api.Version{Major: 1, Pre: []string{"-1", "a-b", "0"}})
	taken(t, "1.0.0-01a", api.Version{Major: 1, Pre: []string{"01a"}})
	taken(t, "0.0.0-a.b.c.d.e.f.g.h", api.Version{Pre: []string{"a", "b", "c", "d", "e", "f", "g", "h"}})
	taken(t, "0.0.0-9999999999999999", api.Version{Pre: []string{"9999999999999999"}})
	if v := read(t, long(128)); len(v.Pre) != 8 || v.Pre[0] != "abcdefghij-01234" || v.Pre[7] != "zzz" {
		t.Errorf("Read of a text of 128 bytes = %v", v)
	}
}

func TestP71ReadNone(t *testing.T) {
	for _, s := range nones() {
		refused(t, s)
	}
}

func TestP71ReadModel(t *testing.T) {
	for _, s := range all() {
		if v, ok := model(s); ok {
			taken(t, s, v)
		} else {
			refused(t, s)
		}
	}
}

func TestP71MayNumbers(t *testing.T) {
	for _, n := range []uint32{0, 1, 1<<31 - 2, 1<<31 - 1, 1 << 31, 1<<31 + 1, 1<<32 - 2, 1<<32 - 1} {
		want := api.ErrVersion
		if n <= 1<<31-1 {
			want = api.OK
		}
		for _, v := range []api.Version{{Major: n}, {Minor: n}, {Patch: n}, {Major: n, Minor: n, Patch: n}, {Major: n, Pre: []string{"a"}}, {Patch: n, Pre: []string{}}} {
			may(t, v, want)
		}
	}
}

func TestP71MayIdentifiers(t *testing.T) {
	for _, s := range []string{"0", "1", "9", "10", "a", "z", "-", "--", "-0", "-01", "0-", "00-", "0a", "00a", "a0", "a-b", "rc", "9999999999999999", "aaaaaaaaaaaaaaaa", "----------------"} {
		for _, l := range placed(s) {
			may(t, api.Version{Pre: l}, api.OK)
		}
	}
	for _, s := range []string{"", "00", "01", "0000000000000000", "10000000000000000", "aaaaaaaaaaaaaaaaa", "A", "aZ", ".", "a.b", "a b", " ", "a\n", "a\x00", "+", "a_b", "/", ":", "`", "{", "é", "\xff", "a\xff", "\u0660", "\ufffd", strings.Repeat("a", 1<<20), strings.Repeat("0", 1<<20)} {
		for _, l := range placed(s) {
			may(t, api.Version{Pre: l}, api.ErrVersion)
		}
	}
	for c := range 256 {
		s := string([]byte{byte(c)})
		want := api.ErrVersion
		if strings.Contains("0123456789abcdefghijklmnopqrstuvwxyz-", s) {
			want = api.OK
		}
		may(t, api.Version{Pre: []string{s}}, want)
		may(t, api.Version{Pre: []string{"x" + s}}, want)
	}
}

func TestP71MayManyIdentifiers(t *testing.T) {
	for n := range 20 {
		want := api.OK
		if n > 8 {
			want = api.ErrVersion
		}
		may(t, api.Version{Pre: slices.Repeat([]string{"a"}, n)}, want)
		may(t, api.Version{Pre: slices.Repeat([]string{"0"}, n)}, want)
	}
	may(t, api.Version{Pre: make([]string, 1<<20)}, api.ErrVersion)
}

// placed are lists with s at the front, in the middle and at the end.
func placed(s string) [][]string {
	return [][]string{{s}, {s, "a"}, {"0", s}, {"a", s, "1"}, {"a", "b", "c", "d", "e", "f", "g", s}}
}

// may holds that each call that a version is handed in to takes it, or refuses it.
func may(t *testing.T, v api.Version, want api.Errno) {
	t.Helper()
	if e := version.May(v); e != want {
		t.Errorf("May(%.80q) = %v, want %v", v.Pre, e, want)
	}
	text, e := version.Text(v)
	if e != want || (text == "") != (want != api.OK) {
		t.Errorf("Text(%d.%d.%d %.80q) = %q, %v, want %v", v.Major, v.Minor, v.Patch, v.Pre, text, e, want)
	}
	if want == api.OK && !same(read(t, text), v) {
		t.Errorf("Read of the text %q of %v is another one", text, v)
	}
	release := want == api.OK && len(v.Pre) == 0
	if version.Release(v) != release {
		t.Errorf("Release(%d.%d.%d %.80q) = %t", v.Major, v.Minor, v.Patch, v.Pre, !release)
	}
	least, e := version.Least(v)
	if e != want || nothing(least) != (want != api.OK) {
		t.Errorf("Least(%d.%d.%d %.80q) = %v, %v, want %v", v.Major, v.Minor, v.Patch, v.Pre, least, e, want)
	}
	for _, other := range []api.Version{{Major: 7}, v} {
		for _, l := range [][2]api.Version{{v, other}, {other, v}} {
			if c, e := version.Cmp(l[0], l[1]); e != want || e != api.OK && c != 0 {
				t.Errorf("Cmp with %d.%d.%d %.80q = %d, %v, want %v", v.Major, v.Minor, v.Patch, v.Pre, c, e, want)
			}
		}
	}
}

// A version may be whose text is longer than a text may be: only that text is refused.
func TestP71TextLong(t *testing.T) {
	for n := 126; n <= 137; n++ {
		v := read(t, long(128))
		v.Pre[7] = strings.Repeat("z", n-125)
		if e := version.May(v); e != api.OK {
			t.Errorf("May of a version with a text of %d bytes = %v", n, e)
		}
		text, e := version.Text(v)
		if n <= 128 && (text != long(n) || e != api.OK) || n > 128 && (text != "" || e != api.ErrVersion) {
			t.Errorf("Text of %d bytes = %q, %v", n, text, e)
		}
		if c, e := version.Cmp(v, api.Version{Major: 1}); c != -1 || e != api.OK {
			t.Errorf("Cmp of a version with a text of %d bytes = %d, %v", n, c, e)
		}
		next, e := version.Next(v, 2)
		if !same(next, api.Version{Major: 1, Patch: 1}) || e != api.OK {
			t.Errorf("Next of a version with a text of %d bytes = %v, %v", n, next, e)
		}
		least, e := version.Least(v)
		if !same(least, api.Version{Major: 1, Pre: []string{"0"}}) || e != api.OK {
			t.Errorf("Least of a version with a text of %d bytes = %v, %v", n, least, e)
		}
	}
	greatest := api.Version{Major: api.MaxNumber, Minor: api.MaxNumber, Patch: api.MaxNumber, Pre: slices.Repeat([]string{"zzzzzzzzzzzzzzzz"}, 8)}
	if text, e := version.Text(greatest); version.May(greatest) != api.OK || text != "" || e != api.ErrVersion {
		t.Errorf("Text of the longest version = %q, %v", text, e)
	}
}
