package event_test

import (
	"fmt"
	"math"
	"strings"

	"yankline/api"
)

// needs are n of them, rising.
func needs(n int) []api.Need {
	l := []api.Need{}
	for i := range n {
		l = append(l, api.Need{Name: fmt.Sprintf("n%05d", i), Span: "*"})
	}
	return l
}

// longSpan is a span's text of as many bytes as there may be.
func longSpan() string {
	version := "1.0.0-" + strings.Repeat("abcdefghijklmno.", 3) + "abcdef"
	return ">=" + version + " <" + strings.Replace(version, "1", "2", 1) + "12345678"[:128-len(version)*2-4]
}

// longVersion is a version's text of as many bytes as there may be.
func longVersion() string { return "1.0.0-" + strings.Repeat("abcdefghijklmno.", 7) + "abcdefghij" }

// allBytes is each byte once.
func allBytes() string {
	var l []byte
	for c := range 256 {
		l = append(l, byte(c))
	}
	return string(l)
}

func publish() api.Event {
	return api.Event{Kind: api.Publish, Who: "alice", Name: "foo", Version: "1.0.0", Needs: []api.Need{{Name: "bar", Span: ">=1.0.0 <2.0.0-0"}}, N: 1, Size: 3}
}

// ordinary are events that may be, one of a kind, from Account on.
func ordinary() []api.Event {
	return []api.Event{
		{Kind: api.Account, Who: "alice", Sum: 255},
		publish(),
		{Kind: api.Yank, Who: "alice", Name: "foo", Version: "1.0.0"},
		{Kind: api.Unyank, Who: "a", Name: "b", Version: "1.0.0-rc.1"},
		{Kind: api.Deprecate, Who: "a", Name: "b", Version: "1.0.0", Note: "ok"},
		{Kind: api.Own, Who: "alice", Name: "foo-bar", Holder: "bob"},
		{Kind: api.Disown, Who: "a", Name: "1", Holder: "a"},
		{Kind: api.Team, Who: "alice", Holder: "core"},
		{Kind: api.Join, Who: "alice", Holder: "core", Note: "bob"},
		{Kind: api.Leave, Who: "a", Holder: "b", Note: "c9"},
	}
}

// edges are events that may be, some of them just so.
func edges() []api.Event {
	name, holder := strings.Repeat("a-", 31)+"99", strings.Repeat("z", 64)
	l := []api.Event{
		{Kind: api.Account, Who: holder},
		{Kind: api.Account, Who: "z9", Sum: math.MaxUint64},
		{Kind: api.Account, Who: "account", Sum: 0x0123456789abcdef},
		{Kind: api.Publish, Who: "a", Name: "b", Version: "0.0.0", N: 1},
		{Kind: api.Publish, Who: holder, Name: name, Version: longVersion(), Needs: needs(64), Sum: math.MaxUint64, N: math.MaxUint32, Size: 65536},
		{Kind: api.Publish, Who: "a", Name: "b", Version: "0.0.0", Needs: []api.Need{{Name: name, Span: longSpan()}}, Sum: 1 << 63, N: 127, Size: 128},
		{Kind: api.Publish, Who: "a", Name: "b", Version: "2147483647.2147483647.2147483647", Needs: []api.Need{{Name: "0", Span: "!"}, {Name: "b", Span: "*"}, {Name: "b-c", Span: "=1.0.0-a || >2.0.0 <3.0.0 || >3.0.0"}}, N: 128, Size: 16384},
		{Kind: api.Yank, Who: "yank", Name: "yank", Version: "0.0.0-0"},
		{Kind: api.Unyank, Who: holder, Name: name, Version: longVersion()},
		{Kind: api.Deprecate, Who: "a", Name: "b", Version: "1.0.0"},
		{Kind: api.Deprecate, Who: "a", Name: "b", Version: "1.0.0", Note: "-"},
		{Kind: api.Deprecate, Who: "a", Name: "b", Version: "1.0.0", Note: "\x00"},
		{Kind: api.Deprecate, Who: "a", Name: "b", Version: "1.0.0", Note: " _\n"},
		{Kind: api.Deprecate, Who: "a", Name: "b", Version: "1.0.0", Note: allBytes()},
		{Kind: api.Own, Who: "own", Name: "own", Holder: "own"},
		{Kind: api.Disown, Who: holder, Name: name, Holder: holder},
		{Kind: api.Team, Who: holder, Holder: holder},
		{Kind: api.Join, Who: "a", Holder: holder, Note: holder},
		{Kind: api.Leave, Who: "a", Holder: "a", Note: "a"},
	}
	return l
}

// valid are events that may be.
func valid() []api.Event { return append(ordinary(), edges()...) }

// texts are such as may stand in one field or another, and such as may in none.
func texts() []string {
	return []string{
		"", "a", "alice", "A", "z9", "9z", "foo-bar", "foo_bar", "foo--bar", "-foo", "Foo", "a b", " a", "a ", "-", "_", "\x00", "\xff", "ä", "a\n",
		"1.0.0", "1.0", "01.0.0", "1.0.0-a", "1.0.0-01", "v1.0.0", " 1.0.0", longVersion(), longVersion() + "k",
		strings.Repeat("a", 64), strings.Repeat("a", 65), strings.Repeat("\xff", 256), strings.Repeat("\xff", 257), strings.Repeat("a", 1<<17),
	}
}

// needLists are such as may be, and such as may not.
func needLists() [][]api.Need {
	name := strings.Repeat("a", 64)
	l := [][]api.Need{
		nil, {}, needs(1), needs(2), needs(63), needs(64), needs(65), needs(1 << 16),
		{{}}, {{Name: "a"}}, {{Span: "*"}}, {{Name: "", Span: "*"}, {Name: "a", Span: "*"}},
		{{Name: "a", Span: "*"}, {Name: "a", Span: "*"}}, {{Name: "a", Span: "*"}, {Name: "a", Span: "!"}}, {{Name: "b", Span: "*"}, {Name: "a", Span: "*"}},
		{{Name: "a", Span: "*"}, {Name: "b", Span: "*"}, {Name: "a", Span: "*"}}, {{Name: "a", Span: "*"}, {Name: "b", Span: "*"}, {Name: "b", Span: "*"}},
		{{Name: "9", Span: "*"}, {Name: "a", Span: "*"}, {Name: "a-b", Span: "*"}, {Name: "a0", Span: "*"}, {Name: "ab", Span: "*"}}, {{Name: "a", Span: "*"}, {Name: "9", Span: "*"}}, {{Name: "ab", Span: "*"}, {Name: "a-b", Span: "*"}},
		{{Name: name, Span: longSpan()}}, {{Name: name + "a", Span: "*"}}, {{Name: "a", Span: longSpan() + "9"}},
	}
	for _, name := range []string{"A", "a_b", "a--b", "-", "a b", "\xff"} {
		l = append(l, []api.Need{{Name: name, Span: "*"}}, []api.Need{{Name: "0", Span: "*"}, {Name: name, Span: "*"}})
	}
	for _, said := range []string{"", "1.0.0", "=1.0.0", "^1.0.0", ">=1.0.0 <2.0.0-0", ">=1.0.0_<2.0.0-0", "<2.0.0-0 >=1.0.0", "!", "* ", "* || *", "=1.0.0 || =2.0.0", "=2.0.0 || =1.0.0", "\xff"} {
		l = append(l, []api.Need{{Name: "a", Span: said}}, []api.Need{{Name: "a", Span: "*"}, {Name: "b", Span: said}})
	}
	return l
}

// turned are e with one of its fields turned, each in many ways.
func turned(e api.Event) []api.Event {
	var l []api.Event
	with := func(turn func(*api.Event)) {
		other := e
		turn(&other)
		l = append(l, other)
	}
	for k := range 256 {
		with(func(e *api.Event) { e.Kind = api.Kind(k) })
	}
	for _, s := range texts() {
		with(func(e *api.Event) { e.Who = s })
		with(func(e *api.Event) { e.Name = s })
		with(func(e *api.Event) { e.Version = s })
		with(func(e *api.Event) { e.Holder = s })
		with(func(e *api.Event) { e.Note = s })
	}
	for _, x := range []uint32{0, 1, 2, 255, 65535, 65536, 65537, 1 << 31, math.MaxUint32} {
		with(func(e *api.Event) { e.Sum = uint64(x) })
		with(func(e *api.Event) { e.Sum = uint64(x) << 32 })
		with(func(e *api.Event) { e.N = x })
		with(func(e *api.Event) { e.Size = x })
	}
	for _, needs := range needLists() {
		with(func(e *api.Event) { e.Needs = needs })
	}
	return l
}

// all are events of all kinds, such as may be and such as may not.
func all() []api.Event {
	l := append(valid(), api.Event{}, api.Event{Kind: 11}, api.Event{Kind: 255, Who: "alice"})
	for _, e := range ordinary() {
		l = append(l, turned(e)...)
	}
	return l
}
