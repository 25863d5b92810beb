package event_test

import (
	"encoding/hex"
	"fmt"
	"strings"
	"testing"

	"yankline/api"
	"yankline/event"
	"yankline/span"
	"yankline/sum"
	"yankline/version"
)

// told is an event, cut off.
func told(e api.Event) string { return fmt.Sprintf("%.300s", fmt.Sprint(e)) }

// mayBe holds that e may be, and what its bytes and its line are.
func mayBe(t *testing.T, e api.Event, bytes, line string) {
	t.Helper()
	if no := event.May(e); no != api.OK {
		t.Errorf("May(%s) = %v", told(e), no)
	}
	if s, no := event.Bytes(e); s != bytes || no != api.OK {
		t.Errorf("Bytes(%s) = %.300x, %v, want %.300x", told(e), s, no, bytes)
	}
	if s, no := event.Text(e); s != line || no != api.OK {
		t.Errorf("Text(%s) = %.300q, %v, want %.300q", told(e), s, no, line)
	}
}

// mayNotBe holds that e may not be, and that nothing is told beside that.
func mayNotBe(t *testing.T, e api.Event) {
	t.Helper()
	if no := event.May(e); no != api.ErrEvent {
		t.Errorf("May(%s) = %v, want ErrEvent", told(e), no)
	}
	if s, no := event.Bytes(e); s != "" || no != api.ErrEvent {
		t.Errorf("Bytes(%s) = %.300x, %v, want nothing, ErrEvent", told(e), s, no)
	}
	if s, no := event.Text(e); s != "" || no != api.ErrEvent {
		t.Errorf("Text(%s) = %.300q, %v, want nothing, ErrEvent", told(e), s, no)
	}
}

func TestP91Examples(t *testing.T) {
	form, _ := span.Form("^1.0.0")
	e := publish()
	e.Needs[0].Span = form
	for _, c := range []struct {
		e           api.Event
		bytes, line string
	}{
		{api.Event{Kind: api.Account, Who: "alice", Sum: 255}, "01 05 61 6c 69 63 65 00 00 00 00 00 00 00 ff", "account alice 00000000000000ff"},
		{e, "02 05 61 6c 69 63 65 03 66 6f 6f 05 31 2e 30 2e 30 01 03 62 61 72 10 3e 3d 31 2e 30 2e 30 20 3c 32 2e 30 2e 30 2d 30 00 00 00 00 00 00 00 00 01 03", "publish alice foo 1.0.0 1 bar >=1.0.0_<2.0.0-0 0000000000000000 1 3"},
		{api.Event{Kind: api.Yank, Who: "a", Name: "b", Version: "1.0.0"}, "03 01 61 01 62 05 31 2e 30 2e 30", "yank a b 1.0.0"},
		{api.Event{Kind: api.Unyank, Who: "a", Name: "b", Version: "1.0.0"}, "04 01 61 01 62 05 31 2e 30 2e 30", "unyank a b 1.0.0"},
		{api.Event{Kind: api.Deprecate, Who: "a", Name: "b", Version: "1.0.0", Note: "ok"}, "05 01 61 01 62 05 31 2e 30 2e 30 02 6f 6b", "deprecate a b 1.0.0 6f6b"},
		{api.Event{Kind: api.Deprecate, Who: "a", Name: "b", Version: "1.0.0"}, "05 01 61 01 62 05 31 2e 30 2e 30 00", "deprecate a b 1.0.0 -"},
		{api.Event{Kind: api.Own, Who: "a", Name: "b", Holder: "c"}, "06 01 61 01 62 01 63", "own a b c"},
		{api.Event{Kind: api.Disown, Who: "a", Name: "b", Holder: "c"}, "07 01 61 01 62 01 63", "disown a b c"},
		{api.Event{Kind: api.Team, Who: "a", Holder: "c"}, "08 01 61 01 63", "team a c"},
		{api.Event{Kind: api.Join, Who: "a", Holder: "c", Note: "d"}, "09 01 61 01 63 01 64", "join a c d"},
		{api.Event{Kind: api.Leave, Who: "a", Holder: "c", Note: "d"}, "0a 01 61 01 63 01 64", "leave a c d"},
		{api.Event{Kind: api.Publish, Who: "a", Name: "b", Version: "1.0.0", Sum: 1 << 63, N: 300, Size: 65536}, "02 01 61 01 62 05 31 2e 30 2e 30 00 80 00 00 00 00 00 00 00 ac 02 80 80 04", "publish a b 1.0.0 0 8000000000000000 300 65536"},
		{api.Event{Kind: api.Deprecate, Who: "a", Name: "b", Version: "1.0.0", Note: "-"}, "05 01 61 01 62 05 31 2e 30 2e 30 01 2d", "deprecate a b 1.0.0 2d"},
		{api.Event{Kind: api.Deprecate, Who: "a", Name: "b", Version: "1.0.0", Note: "\x00\xfa \n"}, "05 01 61 01 62 05 31 2e 30 2e 30 04 00 fa 20 0a", "deprecate a b 1.0.0 00fa200a"},
	} {
		mayBe(t, c.e, unhex(c.bytes), c.line)
	}
}

// unhex is the bytes whose hexadecimal digits s has, with blanks between.
func unhex(s string) string {
	b, err := hex.DecodeString(strings.ReplaceAll(s, " ", ""))
	if err != nil {
		panic(err)
	}
	return string(b)
}

func TestP91May(t *testing.T) {
	for _, e := range valid() {
		if !may(e) {
			t.Fatalf("the model refuses %s", told(e))
		}
		mayBe(t, e, bytesOf(e), lineOf(e))
	}
	mayNotBe(t, api.Event{})
	ones := 0
	for _, e := range all() {
		if !may(e) {
			mayNotBe(t, e)
			continue
		}
		mayBe(t, e, bytesOf(e), lineOf(e))
		ones++
	}
	if ones < 100 {
		t.Errorf("of all events but %d may be", ones)
	}
}

// Where two fields are turned the one does not make up for the other one.
func TestP91MayTwo(t *testing.T) {
	for _, e := range ordinary() {
		for _, f := range []api.Event{{Who: "bob"}, {Name: "foo"}, {Version: "1.0.0"}, {Needs: needs(1)}, {Sum: 1}, {N: 1}, {Size: 1}, {Holder: "bob"}, {Note: "bob"}} {
			for _, g := range ordinary() {
				g.Kind = e.Kind
				mixed(t, g, f)
			}
			mixed(t, e, f)
		}
	}
}

// mixed holds that May tells of e, with what is something in f instead, what the model does.
func mixed(t *testing.T, e, f api.Event) {
	t.Helper()
	if f.Who != "" {
		e.Who = f.Who
	}
	if f.Name != "" {
		e.Name = f.Name
	}
	if f.Version != "" {
		e.Version = f.Version
	}
	if len(f.Needs) > 0 {
		e.Needs = f.Needs
	}
	e.Sum, e.N, e.Size = e.Sum|f.Sum, e.N|f.N, e.Size|f.Size
	if f.Holder != "" {
		e.Holder = f.Holder
	}
	if f.Note != "" {
		e.Note = f.Note
	}
	if may(e) {
		mayBe(t, e, bytesOf(e), lineOf(e))
	} else {
		mayNotBe(t, e)
	}
}

// A sum in a line is layer 1's text, a version and a span those of layers 7 and 8.
func TestP91LowerLayers(t *testing.T) {
	for _, x := range []uint64{0, 1, 9, 10, 15, 16, 255, 256, 1<<32 - 1, 1 << 32, 0x0123456789abcdef, 0xfedcba9876543210, 1 << 63, 1<<64 - 1, sum.Of(""), sum.Of("tok-a")} {
		e := api.Event{Kind: api.Account, Who: "a", Sum: x}
		mayBe(t, e, bytesOf(e), "account a "+sum.Text(x))
	}
	if !version.Is(longVersion()) || len(longVersion()) != api.MaxText || !span.Is(longSpan()) || len(longSpan()) != api.MaxText {
		t.Errorf("%q, %q are not as long as they may be", longVersion(), longSpan())
	}
}

func TestP91Word(t *testing.T) {
	for k := range 256 {
		want, no := "", api.ErrArg
		if s, ok := schemaOf(api.Kind(k)); ok {
			want, no = s.word, api.OK
		}
		if s, e := event.Word(api.Kind(k)); s != want || e != no {
			t.Errorf("Word(%d) = %q, %v, want %q, %v", k, s, e, want, no)
		}
	}
}

func TestP93Same(t *testing.T) {
	l := append(valid(), turned(publish())...)
	l = append(l, turned(ordinary()[8])...)
	for i, a := range l {
		if !event.Same(a, a) {
			t.Errorf("Same(%s) and itself = false", told(a))
		}
		for _, b := range l[i:] {
			want := same(a, b)
			if event.Same(a, b) != want || event.Same(b, a) != want {
				t.Errorf("Same(%s, %s) is not %t", told(a), told(b), want)
			}
		}
	}
}

// Of events that may not be, too, each field counts.
func TestP93SameFields(t *testing.T) {
	none := api.Event{}
	one := []api.Need{{Name: "a", Span: "*"}, {Name: "b", Span: "!"}}
	for _, e := range []api.Event{{Kind: 255}, {Who: "\x00"}, {Name: " "}, {Version: "1"}, {Needs: []api.Need{{}}}, {Needs: one}, {Sum: 1 << 63}, {N: 1}, {Size: 1}, {Holder: "a"}, {Note: "a"}} {
		if event.Same(e, none) || event.Same(none, e) || !event.Same(e, e) {
			t.Errorf("Same(%v) and none", e)
		}
	}
	for _, needs := range [][]api.Need{nil, {}, one[:1], one[1:], {one[1], one[0]}, {{Name: "a", Span: "!"}, {Name: "b", Span: "!"}}, {{Name: "a", Span: "*"}, {Name: "c", Span: "!"}}, append(one[:2:2], api.Need{})} {
		a, b := api.Event{Needs: one}, api.Event{Needs: needs}
		if event.Same(a, b) || event.Same(b, a) {
			t.Errorf("Same(%v, %v) = true", a, b)
		}
	}
	if !event.Same(api.Event{Needs: one}, api.Event{Needs: append([]api.Need{}, one...)}) {
		t.Errorf("Same of two lists of the same needs = false")
	}
	for _, l := range [][2][]api.Need{{nil, nil}, {nil, {}}, {{}, nil}, {{}, {}}, {one[:0], nil}} {
		if !event.Same(api.Event{Needs: l[0]}, api.Event{Needs: l[1]}) {
			t.Errorf("Same of two lists of nothing = false")
		}
	}
}

func TestP93About(t *testing.T) {
	for k := range 256 {
		for _, name := range append(texts(), "foo") { // of events that may not be, too
			want, is := "", false
			if 2 <= k && k <= 7 {
				want, is = name, true
			}
			e := api.Event{Kind: api.Kind(k), Who: "alice", Name: name, Version: "1.0.0", Holder: "bob", Note: "carol"}
			if got, ok := event.About(e); got != want || ok != is {
				t.Errorf("About(%s) = %.80q, %t, want %.80q, %t", told(e), got, ok, want, is)
			}
		}
	}
	for _, e := range valid() {
		want := e.Name
		if got, ok := event.About(e); got != want || ok != (want != "") {
			t.Errorf("About(%s) = %q, %t", told(e), got, ok)
		}
	}
}
