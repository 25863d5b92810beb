package event_test

import (
	"math/rand/v2"
	"strings"
	"testing"

	"yankline/api"
	"yankline/event"
)

// readsText holds that ReadText tells of s what the model does.
func readsText(t *testing.T, s string) {
	t.Helper()
	want, is := modelReadText(s)
	e, no := event.ReadText(s)
	switch {
	case !is && (no != api.ErrEvent || !same(e, api.Event{})):
		t.Errorf("ReadText(%.200q) = %s, %v, want nothing, ErrEvent", s, told(e), no)
	case is && (no != api.OK || !same(e, want)):
		t.Errorf("ReadText(%.200q) = %s, %v, want %s", s, told(e), no, told(want))
	case is:
		if again, no := event.Text(e); again != s || no != api.OK {
			t.Errorf("Text of ReadText(%.200q) = %.200q, %v", s, again, no)
		}
	}
}

func TestP91ReadText(t *testing.T) {
	for s, want := range map[string]api.Event{
		"account alice 00000000000000ff":                                          {Kind: api.Account, Who: "alice", Sum: 255},
		"publish alice foo 1.0.0 1 bar >=1.0.0_<2.0.0-0 0000000000000000 1 3":     publish(),
		"publish a b 1.0.0 0 ffffffffffffffff 4294967295 65536":                   {Kind: api.Publish, Who: "a", Name: "b", Version: "1.0.0", Sum: 1<<64 - 1, N: 1<<32 - 1, Size: 65536},
		"publish a b 1.0.0 2 c =1.0.0_||_>2.0.0_<=3.0.0 d ! 0000000000000001 1 0": {Kind: api.Publish, Who: "a", Name: "b", Version: "1.0.0", Needs: []api.Need{{Name: "c", Span: "=1.0.0 || >2.0.0 <=3.0.0"}, {Name: "d", Span: "!"}}, Sum: 1, N: 1},
		"yank a b 1.0.0":           {Kind: api.Yank, Who: "a", Name: "b", Version: "1.0.0"},
		"unyank a b 1.0.0":         {Kind: api.Unyank, Who: "a", Name: "b", Version: "1.0.0"},
		"deprecate a b 1.0.0 6f6b": {Kind: api.Deprecate, Who: "a", Name: "b", Version: "1.0.0", Note: "ok"},
		"deprecate a b 1.0.0 -":    {Kind: api.Deprecate, Who: "a", Name: "b", Version: "1.0.0"},
		"deprecate a b 1.0.0 2d":   {Kind: api.Deprecate, Who: "a", Name: "b", Version: "1.0.0", Note: "-"},
		"deprecate a b 1.0.0 00":   {Kind: api.Deprecate, Who: "a", Name: "b", Version: "1.0.0", Note: "\x00"},
		"own a b c":                {Kind: api.Own, Who: "a", Name: "b", Holder: "c"},
		"disown a b c":             {Kind: api.Disown, Who: "a", Name: "b", Holder: "c"},
		"team a c":                 {Kind: api.Team, Who: "a", Holder: "c"},
		"join a c d":               {Kind: api.Join, Who: "a", Holder: "c", Note: "d"},
		"leave a c d":              {Kind: api.Leave, Who: "a", Holder: "c", Note: "d"},
	} {
		if e, no := event.ReadText(s); no != api.OK || !same(e, want) {
			t.Errorf("ReadText(%q) = %v, %v, want %v", s, e, no, want)
		}
		readsText(t, s)
	}
}

func TestP91ReadTextNone(t *testing.T) {
	for _, s := range []string{
		"", " ", "account", "Account alice 00000000000000ff", "accounts alice 00000000000000ff", " account alice 00000000000000ff", "account alice 00000000000000ff ", "account  alice 00000000000000ff", "account alice  00000000000000ff", "account alice 00000000000000ff\n",
		"account alice 00000000000000FF", "account alice ff", "account alice 000000000000000ff", "account alice 0x000000000000ff", "account alice +0000000000000ff", "account alice 255", "account alice", "account alice -", "account alice 0000000000000000000000000000000f",
		"account 2alice 00000000000000ff", "account Alice 00000000000000ff", "account  00000000000000ff", "account\talice 00000000000000ff", "account alice 00000000000000ff x",
		"0 alice", "1 alice 00000000000000ff", "  ", "- alice", "none",
		"yank a b", "yank a b 1.0", "yank a B 1.0.0", "yank a b_c 1.0.0", "yank a b 1.0.0 ", "yank a b 1.0.0 x", "yank a b 01.0.0", "yank a b c 1.0.0",
		"deprecate a b 1.0.0", "deprecate a b 1.0.0 ", "deprecate a b 1.0.0 6", "deprecate a b 1.0.0 6f6", "deprecate a b 1.0.0 6F6B", "deprecate a b 1.0.0 6f 6b", "deprecate a b 1.0.0 --", "deprecate a b 1.0.0 ok", "deprecate a b 1.0.0 0x6f", "deprecate a b 1.0.0 +f", "deprecate a b 1.0.0 - ", "deprecate a b 1.0.0 6_", "deprecate a b 1.0.0 -f",
		"deprecate a b 1.0.0 " + strings.Repeat("00", 257), "deprecate a b 1.0.0 " + strings.Repeat("0", 513), "deprecate a b 1.0.0 " + strings.Repeat("0", 1<<20),
		"join a b", "join a b C", "join a b -", "join a b 6f6b x", "join a b ", "leave a b 9", "team a", "team a b c", "own a b", "own a b C", "disown a b c d",
		"publish alice foo 1.0.0 1 bar >=1.0.0 <2.0.0-0 0000000000000000 1 3", "publish alice foo 1.0.0 1 bar ^1.0.0 0000000000000000 1 3", "publish alice foo 1.0.0 1 bar 1.0.0 0000000000000000 1 3", "publish alice foo 1.0.0 bar * 0000000000000000 1 3",
		"publish a b 1.0.0 00 0000000000000000 1 3", "publish a b 1.0.0 +0 0000000000000000 1 3", "publish a b 1.0.0 -0 0000000000000000 1 3", "publish a b 1.0.0 -1 0000000000000000 1 3", "publish a b 1.0.0 0 0000000000000000 0 3", "publish a b 1.0.0 0 0000000000000000 01 3", "publish a b 1.0.0 0 0000000000000000 1 03", "publish a b 1.0.0 0 0000000000000000 1 +3", "publish a b 1.0.0 0 0000000000000000 1 -", "publish a b 1.0.0 0 0000000000000000 1",
		"publish a b 1.0.0 0 0000000000000000 1 65537", "publish a b 1.0.0 0 0000000000000000 1 4294967296", "publish a b 1.0.0 0 0000000000000000 4294967296 3", "publish a b 1.0.0 0 0000000000000000 4294967297 3", "publish a b 1.0.0 0 0000000000000000 18446744073709551617 3", "publish a b 1.0.0 0 0000000000000000 1 18446744073709551616", "publish a b 1.0.0 0 0000000000000000 1_0 3", "publish a b 1.0.0 0 0000000000000000 0x1 3", "publish a b 1.0.0 0 0000000000000000 1 3 3",
		"publish a b 1.0.0 64", "publish a b 1.0.0 65", "publish a b 1.0.0 4294967295", "publish a b 1.0.0 18446744073709551615 c *", "publish a b 1.0.0 18446744073709551616", "publish a b 1.0.0 1 c 0000000000000000 1 3", "publish a b 1.0.0 1  * 0000000000000000 1 3", "publish a b 1.0.0 1 c  0000000000000000 1 3",
		"publish a b 1.0.0 2 d * c * 0000000000000000 1 3", "publish a b 1.0.0 2 c * c * 0000000000000000 1 3", "publish a b 1.0.0 1 C * 0000000000000000 1 3", "publish a b 1.0.0 1 c * d * 0000000000000000 1 3",
		"publish a b 1.0.0 1 c >=1.0.0__<2.0.0-0 0000000000000000 1 3", "publish a b 1.0.0 1 c _>=1.0.0 0000000000000000 1 3", "publish a b 1.0.0 1 c =1.0.0||=2.0.0 0000000000000000 1 3",
		strings.Repeat(" ", 1<<20), strings.Repeat("_", 1<<20), "publish a b 1.0.0 1 c " + strings.Repeat("_", 1<<20), "yank " + strings.Repeat("a", 1<<20), "publish a b 1.0.0 " + strings.Repeat("9", 1<<20), "account a " + strings.Repeat("0", 1<<20), "yank a b 1.0.0" + strings.Repeat(" c", 1<<20), "\xff", "\x00",
	} {
		if e, no := event.ReadText(s); no != api.ErrEvent || !same(e, api.Event{}) {
			t.Errorf("ReadText(%.200q) = %s, %v, want nothing, ErrEvent", s, told(e), no)
		}
		if _, is := modelReadText(s); is {
			t.Errorf("the model takes %.200q", s)
		}
	}
}

// Each byte at each place of events' lines is taken for what it is; so is what is cut off, left out, put in.
func TestP91ReadTextBytes(t *testing.T) {
	for _, e := range valid() {
		s := lineOf(e)
		readsText(t, s)
		readsText(t, s+s)
		readsText(t, s+" "+s)
		for at := range s {
			if len(s) > 700 && at%97 > 0 && at > 300 {
				continue
			}
			readsText(t, s[:at])
			readsText(t, s[at:])
			readsText(t, s[:at]+s[at+1:])
			for _, c := range " _-0a.\x00" {
				readsText(t, s[:at]+string(c)+s[at:])
			}
			for c := range 256 {
				if len(s) < 80 || c%41 == 0 {
					readsText(t, s[:at]+string([]byte{byte(c)})+s[at+1:])
				}
			}
		}
	}
}

// What is put together of the parts of several lines, the same ones always.
func TestP91ReadTextMixed(t *testing.T) {
	r := rand.New(rand.NewPCG(9, 1))
	var lines [][]string
	for _, e := range valid() {
		if s := lineOf(e); len(s) < 300 {
			lines = append(lines, strings.Split(s, " "))
		}
	}
	some := []string{"", "-", "0", "1", "2", "alice", "foo", "foo-bar", "1.0.0", "*", "=1.0.0_||_=2.0.0", "0000000000000000", "6f6b"}
	taken := 0
	for range 20000 {
		a, b := lines[r.IntN(len(lines))], lines[r.IntN(len(lines))]
		l := append(append([]string{}, a[:r.IntN(len(a)+1)]...), b[r.IntN(len(b)+1):]...)
		if len(l) > 0 && r.IntN(2) == 0 {
			l[r.IntN(len(l))] = some[r.IntN(len(some))]
		}
		s := strings.Join(l, " ")
		readsText(t, s)
		if _, is := modelReadText(s); is {
			taken++
		}
	}
	if taken < 500 {
		t.Errorf("but %d of the lines are events'", taken)
	}
}

func TestP94ThereAndBack(t *testing.T) {
	bytes, lines := map[string]api.Event{}, map[string]api.Event{}
	for _, e := range all() {
		if event.May(e) != api.OK {
			continue
		}
		s, _ := event.Bytes(e)
		if got, err := event.Read(s); err != nil || !event.Same(got, e) {
			t.Errorf("Read of Bytes(%s) = %s, %v", told(e), told(got), err)
		}
		line, _ := event.Text(e)
		if got, no := event.ReadText(line); no != api.OK || !event.Same(got, e) {
			t.Errorf("ReadText of Text(%s) = %s, %v", told(e), told(got), no)
		}
		for text, of := range map[string]map[string]api.Event{s: bytes, line: lines} {
			if other, there := of[text]; there && !event.Same(other, e) {
				t.Errorf("%s and %s are both %.200q", told(e), told(other), text)
			}
			of[text] = e
		}
	}
	if len(bytes) < 200 || len(bytes) != len(lines) {
		t.Errorf("%d events' bytes, %d lines", len(bytes), len(lines))
	}
}
