package store_test

import (
	"fmt"
	"maps"
	"slices"
	"strings"
	"testing"

	"yankline/api"
	"yankline/disk"
	"yankline/event"
	"yankline/store"
)

func TestP172Examples(t *testing.T) {
	r := begun(t, nil)
	r.do(line("account alice 0000000000000001"))
	r.publish("alice", "foo", "1.0.0", nil, "abc")
	if names := r.d.Names(); !slices.Equal(names, []string{"blob/e71fa2190541574b-1", "log/00000001", "page/foo"}) {
		t.Errorf("the files are %q", names)
	}
	r.power(2) // the record has two pieces
	fine(t, "Do, cut in its page", r.s.Do(line("yank alice foo 1.0.0")))
	if !r.s.Broken() || r.s.Head() != 3 {
		t.Errorf("Do, cut in its page: Broken = %v, Head = %d", r.s.Broken(), r.s.Head())
	}
	fine(t, "Restart", r.d.Restart(-1))
	s, err := store.Open(r.d)
	fine(t, "Open", err)
	want := "page foo 3\nholders alice\nrelease 1.0.0 alice 2 e71fa2190541574b 1 3 yanked -\n"
	if text, err := s.Page("foo"); text != want || err != nil {
		t.Errorf("Page(foo) = %q, %v", text, err)
	}
}

// Each event that may be done, by just the raw writes that it needs: its record's, and its page's, if it is about a package.
func TestP172Writes(t *testing.T) {
	r := begun(t, busy(t).m.files)
	pieces := func(bytes int) int { return (bytes + 31) / 32 }
	for _, e := range lines(
		"account carol 0000000000000003", "team carol ops", "join carol ops alice", "leave carol ops alice",
		"own alice zoo ops", "disown carol zoo alice", "yank carol zoo 1.0.0", "unyank carol zoo 1.0.0", "deprecate carol zoo 1.0.0 00ff", "deprecate carol zoo 1.0.0 -",
	) {
		r.power(-1)
		r.do(e)
		want := pieces(len(record(payloads([]api.Event{e})[0])))
		if name, is := event.About(e); is {
			text, _ := r.m.text(name)
			want += 1 + pieces(len(text)) + 1
		}
		if r.d.Writes() != want {
			t.Errorf("Do of %s: %d raw writes, want %d", told(e), r.d.Writes(), want)
		}
	}
}

// What is refused is no raw write, and nothing is changed by it; why is rule's.
func TestP172Refused(t *testing.T) {
	r := busy(t)
	r.power(-1)
	for _, c := range []struct {
		e    api.Event
		want *api.Fault
	}{
		{line("publish alice a 9.0.0 0 0000000000000000 1 0"), of(api.ErrArg, "publish")},
		{api.Event{Kind: api.Publish}, of(api.ErrArg, "publish")},
		{api.Event{Kind: api.Publish, Who: "\x00", Note: strings.Repeat("x", 1<<20)}, of(api.ErrArg, "publish")},
		{api.Event{}, refused("", no(api.ErrEvent))},
		{api.Event{Kind: api.Leave + 1, Who: "alice"}, refused("", no(api.ErrEvent))},
		{api.Event{Kind: 255}, refused("", no(api.ErrEvent))},
		{api.Event{Kind: api.Yank, Who: "alice", Name: "Zoo", Version: "1.0.0"}, refused("yank", no(api.ErrEvent))},
		{api.Event{Kind: api.Yank, Who: "alice", Name: "zoo", Version: "1.0.0", N: 1}, refused("yank", no(api.ErrEvent))},
		{line("account alice 0000000000000009"), refused("account", no(api.ErrThere))},
		{line("account carol 0000000000000001"), refused("account", no(api.ErrThere))},
		{line("yank carol zoo 1.0.0"), refused("yank", no(api.ErrWho))},
		{line("yank bob zoo 1.0.0"), refused("yank", no(api.ErrOwner))},
		{line("yank alice zoo 2.0.0"), refused("yank", no(api.ErrNone))},
		{line("yank alice nope 2.0.0"), refused("yank", no(api.ErrNone))},
		{line("yank bob foo 2.0.0"), refused("yank", no(api.ErrThere))},
		{line("disown alice zoo alice"), refused("disown", no(api.ErrLast))},
		{line("leave bob dev bob"), refused("leave", of(api.ErrLast, "foo"))},
		{line("join alice dev alice"), refused("join", no(api.ErrMember))},
	} {
		faulty(t, "Do of "+told(c.e), r.s.Do(c.e), c.want)
		r.do(c.e)
	}
	if r.d.Writes() != 0 {
		t.Errorf("what is refused: %d raw writes", r.d.Writes())
	}
}

// A broken store does nothing more, whatever is asked, also when the disk is alive again: ErrState is ahead of all else.
func TestP172Broken(t *testing.T) {
	r := busy(t)
	r.power(0)
	r.do(line("yank alice zoo 1.0.0"))
	for _, cut := range []int{0, -1} {
		for _, e := range append(lines("yank alice zoo 1.0.0", "yank bob zoo 1.0.0", "account carol 0000000000000003"), api.Event{}, api.Event{Kind: api.Publish}) {
			faulty(t, "Do in a broken store", r.s.Do(e), no(api.ErrState))
			r.do(e)
		}
		for _, bytes := range []string{"", "abc", strings.Repeat("x", api.MaxBytes+1)} {
			faulty(t, "Publish in a broken store", r.s.Publish("alice", "zoo", "2.0.0", nil, bytes), no(api.ErrState))
			r.publish("nobody", "", "", nil, bytes)
		}
		r.power(cut)
		r.tells("a broken store")
	}
	if r.d.Writes() != 0 {
		t.Errorf("a broken store: %d raw writes", r.d.Writes())
	}
	r.open()
	r.do(line("yank alice zoo 1.0.0"))
	if r.s.Broken() {
		t.Error("a store that was opened again is broken")
	}
}

// A store is not broken by what it refuses, nor by a disk that somebody else's write has killed, ahead of a call that needs it.
func TestP172DeadDisk(t *testing.T) {
	r := busy(t)
	r.power(0)
	faulty(t, "Put on the disk", r.d.Put("x", ""), of(api.ErrDead, "x"))
	r.m.dead = true
	r.tells("a dead disk")
	r.do(line("yank bob zoo 1.0.0"))
	r.do(line("publish alice a 9.0.0 0 0000000000000000 1 0"))
	r.publish("bob", "zoo", "2.0.0", nil, "")
	r.publish("alice", "zoo", "2.0.0", nil, strings.Repeat("x", api.MaxBytes+1))
	if r.s.Broken() {
		t.Error("a store is broken by what it refused")
	}
	again := busy(t)
	again.power(0)
	again.d.Put("x", "")
	again.m.dead = true
	r.do(line("yank alice zoo 1.0.0"))
	faulty(t, "Do on a dead disk", r.s.Do(line("yank alice zoo 1.0.0")), no(api.ErrState))
	faulty(t, "Publish on a dead disk", again.s.Publish("alice", "zoo", "2.0.0", nil, "abc"), no(api.ErrDead)) // also of bytes that lie there
	if !r.s.Broken() || !again.s.Broken() {
		t.Error("a store is not broken by a dead disk")
	}
}

func TestP173Examples(t *testing.T) {
	r := begun(t, nil)
	r.do(line("account alice 0000000000000001"))
	fine(t, "Publish", r.s.Publish("alice", "foo", "1.0.0", nil, "abc"))
	was := r.d.Copy()
	r.d.Restart(-1)
	faulty(t, "Publish again", r.s.Publish("alice", "foo", "1.0.0", nil, "xyz"), refused("publish", no(api.ErrThere)))
	if !disk.Same(r.d, was) || r.d.Writes() != 0 {
		t.Errorf("the files are %q, by %d raw writes", r.d.Names(), r.d.Writes())
	}
	fine(t, "Restart", r.d.Restart(2))
	faulty(t, "Publish, cut", r.s.Publish("alice", "foo", "2.0.0", nil, "xyz"), of(api.ErrDead, "stage/1"))
	fine(t, "Restart", r.d.Restart(-1))
	s, err := store.Open(r.d)
	fine(t, "Open", err)
	if s.Head() != 2 || !disk.Same(r.d, was) {
		t.Errorf("behind a cut: Head = %d, the files are %q", s.Head(), r.d.Names())
	}
}

// What may not be published is refused as rule does it, of the event with the bytes' sum and size; no blob comes to be.
func TestP173Refused(t *testing.T) {
	r := busy(t)
	r.power(-1)
	one := []api.Need{{Name: "a", Span: "*"}}
	many := make([]api.Need, api.MaxNeeds+1)
	for i := range many {
		many[i] = api.Need{Name: fmt.Sprintf("n%03d", i), Span: "*"}
	}
	for _, c := range []struct {
		who, name, version string
		needs              []api.Need
		want               *api.Fault
	}{
		{"alice", "zoo", "1.0", nil, no(api.ErrEvent)},
		{"alice", "Zoo", "2.0.0", nil, no(api.ErrEvent)},
		{"alice", "", "2.0.0", nil, no(api.ErrEvent)},
		{"Alice", "zoo", "2.0.0", nil, no(api.ErrEvent)},
		{"alice", "zoo", "2.0.0", []api.Need{{Name: "B", Span: "*"}}, no(api.ErrEvent)},
		{"alice", "zoo", "2.0.0", []api.Need{{Name: "b", Span: "^1.0.0"}}, no(api.ErrEvent)},
		{"alice", "zoo", "2.0.0", []api.Need{{Name: "b", Span: "*"}, {Name: "a", Span: "*"}}, no(api.ErrEvent)},
		{"alice", "zoo", "2.0.0", append(one, one...), no(api.ErrEvent)},
		{"alice", "zoo", "2.0.0", many, no(api.ErrEvent)},
		{"carol", "zoo", "2.0.0", one, no(api.ErrWho)},
		{"dev", "zoo", "2.0.0", one, no(api.ErrWho)},
		{"alice", "index", "2.0.0", one, no(api.ErrReserved)},
		{"alice", "f-oo", "2.0.0", one, of(api.ErrLike, "foo")},
		{"bob", "zoo", "2.0.0", one, no(api.ErrOwner)},
		{"alice", "zoo", "1.0.0", one, no(api.ErrThere)},
	} {
		for _, bytes := range []string{"", "abc", "new bytes"} {
			what := fmt.Sprint("Publish of ", c.who, c.name, c.version)
			faulty(t, what, r.s.Publish(c.who, c.name, c.version, c.needs, bytes), refused("publish", c.want))
			r.publish(c.who, c.name, c.version, c.needs, bytes)
		}
		long := strings.Repeat("x", api.MaxBytes+1) // asked ahead of the rules
		faulty(t, "Publish of too much", r.s.Publish(c.who, c.name, c.version, c.needs, long), no(api.ErrLong))
	}
	if r.d.Writes() != 0 || r.s.Broken() {
		t.Errorf("what is refused: %d raw writes, Broken = %v", r.d.Writes(), r.s.Broken())
	}
	head := r.s.Head()
	r.publish("alice", "zoo", "2.0.0", many[:api.MaxNeeds], "")
	r.publish("alice", "zoo", "2.0.1", nil, strings.Repeat("x", api.MaxBytes))
	if n := r.s.Head(); n != head+2 {
		t.Errorf("Head = %d", n)
	}
}

// Bytes that lie there are no blob anew; others of their sum are the next one, the first that is free.
func TestP173Blobs(t *testing.T) {
	r := begun(t, nil)
	r.do(line("account alice 0000000000000001"))
	for i, c := range []struct {
		bytes string
		n     uint32
	}{{alike(0), 1}, {alike(1), 2}, {alike(0), 1}, {alike(2), 3}, {alike(1), 2}, {"abc", 1}, {"", 1}, {alike(5), 4}, {"abc", 1}} {
		version := fmt.Sprintf("%d.0.0", i)
		needs := []api.Need{{Name: "b", Span: "*"}}[:i%2]
		r.publish("alice", "foo", version, needs, c.bytes)
		want := published("alice", "foo", version, needs, c.bytes, c.n)
		if got := r.s.Events(i+1, 1); len(got) != 1 || !event.Same(got[0], want) {
			t.Errorf("the event is %v, want %v", got, want)
		}
	}
	if n := len(r.d.Names()); n != 4+2+2 {
		t.Errorf("the files are %q", r.d.Names())
	}
}

// full is the files of a log of so many events, and the events.
func full(n int) (map[string]string, []api.Event) {
	l := lines("account alice 0000000000000001", "publish alice foo 1.0.0 0 e71fa2190541574b 1 3")
	both := lines("yank alice foo 1.0.0", "unyank alice foo 1.0.0")
	for len(l) < n {
		l = append(l, both[len(l)%2])
	}
	files := logged(payloads(l)...)
	files["blob/e71fa2190541574b-1"] = "abc"
	return files, l
}

// A log of MaxEvents events takes no more: that is told behind why an event is refused, and is no raw write; the store goes on.
func TestP172Full(t *testing.T) {
	files, l := full(api.MaxEvents - 1)
	d := laid(t, -1, files)
	s, err := store.Open(d)
	fine(t, "Open", err)
	last := line("account bob 0000000000000002")
	fine(t, "Do of the last one", s.Do(last))
	fine(t, "Restart", d.Restart(-1))
	was := d.Copy()
	for range 2 {
		faulty(t, "Do", s.Do(line("deprecate alice foo 1.0.0 00")), no(api.ErrLong))
		faulty(t, "Do", s.Do(line("team alice dev")), no(api.ErrLong))
		faulty(t, "Publish", s.Publish("alice", "foo", "2.0.0", nil, "new bytes"), no(api.ErrLong))
		faulty(t, "Publish", s.Publish("alice", "foo", "2.0.0", nil, "abc"), no(api.ErrLong))
		faulty(t, "Publish of too much", s.Publish("alice", "foo", "1.0.0", nil, strings.Repeat("x", api.MaxBytes+1)), no(api.ErrLong))
		faulty(t, "Do of what is refused", s.Do(last), refused("account", no(api.ErrThere)))
		faulty(t, "Publish of what is refused", s.Publish("alice", "foo", "1.0.0", nil, ""), refused("publish", no(api.ErrThere)))
		faulty(t, "Do of a publish", s.Do(l[1]), of(api.ErrArg, "publish"))
	}
	if !disk.Same(d, was) || d.Writes() != 0 || s.Broken() || s.Head() != api.MaxEvents {
		t.Errorf("a full log: %d raw writes, Broken = %v, Head = %d", d.Writes(), s.Broken(), s.Head())
	}
	if got := s.Events(0, api.MaxEvents); !slices.EqualFunc(got, append(l, last), event.Same) {
		t.Error("the events of a full log are others")
	}
	if text, err := s.Get("foo", "1.0.0"); text != "abc" || err != nil {
		t.Errorf("Get = %q, %v", text, err)
	}
	s, err = store.Open(d)
	fine(t, "Open", err)
	if d.Writes() != 0 || s.Head() != api.MaxEvents {
		t.Errorf("Open of a full log: %d raw writes, Head = %d", d.Writes(), s.Head())
	}
}

// A disk without room for one file more: what the log or a blob needs is the call's error, what a page needs is not; broken is the store by all of them.
func TestP172FullDisk(t *testing.T) {
	none := map[string]string{}
	clean := busy(t).m.files
	yank := line("yank alice zoo 1.0.0")
	publish := func(s *store.Store, bytes string) func() error {
		return func() error { return s.Publish("alice", "zoo", "2.0.0", nil, bytes) }
	}
	for i, c := range []struct {
		files map[string]string
		room  int
		call  func(s *store.Store) func() error
		want  *api.Fault
		more  int // events
	}{
		{none, 0, func(s *store.Store) func() error {
			return func() error { return s.Do(line("account alice 0000000000000001")) }
		}, of(api.ErrLong, "log/00000001"), 0},
		{clean, 0, func(s *store.Store) func() error { return publish(s, "new bytes") }, of(api.ErrLong, "stage/1"), 0},
		{clean, 0, func(s *store.Store) func() error { return publish(s, "abc") }, nil, 1},
		{clean, 1, func(s *store.Store) func() error { return publish(s, "new bytes") }, nil, 1},
		{clean, 0, func(s *store.Store) func() error { return func() error { return s.Do(yank) } }, nil, 1},
	} {
		d := laid(t, -1, crowded(c.files, api.MaxFiles-c.room))
		s, err := store.Open(d)
		fine(t, "Open", err)
		head := s.Head()
		answers(t, fmt.Sprintf("call %d", i), c.call(s)(), c.want)
		if !s.Broken() || s.Head() != head+c.more || s.State().Head() != head+c.more || d.Dead() || d.Has("stage/2") {
			t.Errorf("call %d: Broken = %v, Head = %d ahead of it %d", i, s.Broken(), s.Head(), head)
		}
		if c.more > 0 {
			if text, err := s.Page("zoo"); text != clean["page/zoo"] || err != nil {
				t.Errorf("call %d: the page is %q, %v", i, text, err)
			}
		}
		faulty(t, "Do in a broken store", s.Do(yank), no(api.ErrState))
		for k := range 3 {
			fine(t, "Remove on the disk", d.Remove(fmt.Sprint("x/", k)))
		}
		s, err = store.Open(d)
		fine(t, "Open again", err)
		if s.Head() != head+c.more || s.Broken() {
			t.Errorf("call %d, opened again: Head = %d", i, s.Head())
		}
	}
}

// wide is the events of a package of so many versions, each as long in its page as the others, and one more with those needs.
func wide(n int, last []api.Need) []api.Event {
	l := lines("account alice 0000000000000001")
	needs := make([]api.Need, 20)
	for i := range needs {
		var spans []string
		for digit := range 4 {
			long := strings.Repeat(fmt.Sprint(digit+1), 8)
			spans = append(spans, "="+long+"."+long+"."+long)
		}
		needs[i] = api.Need{Name: fmt.Sprintf("n%063d", i), Span: strings.Join(spans, " || ")}
	}
	for i := range n {
		l = append(l, published("alice", "wide", fmt.Sprintf("1.%d.0", 100+i), needs, "abc", 1))
	}
	return append(l, published("alice", "wide", "2.0.0", last, "abc", 1))
}

// pageSize is how many bytes the page of wide has.
func pageSize(l []api.Event) int {
	m := &model{}
	_, m.state, _ = read(payloads(l))
	text, _ := m.text("wide")
	return len(text)
}

// widest is the events by which the page of wide has just as many bytes as it may.
func widest(t *testing.T) []api.Event {
	t.Helper()
	size := pageSize(wide(150, nil))
	step := pageSize(wide(151, nil)) - size
	n := 150 + (api.MaxPage-size)/step
	missing := (api.MaxPage - size) % step
	if missing < 11 {
		n, missing = n-1, missing+step
	}
	var last []api.Need // each a line of 8 bytes and its name
	for count := (missing + 71) / 72; count > 0; count-- {
		name := fmt.Sprintf("b%02d", len(last))
		name += strings.Repeat("x", missing/count-8-len(name))
		last = append(last, api.Need{Name: name, Span: "*"})
		missing -= 8 + len(name)
	}
	l := wide(n, last)
	if size := pageSize(l); size != api.MaxPage || len(l) < 100 || len(l) > 900 { // a further revision has as many digits
		t.Fatalf("the page of %d events has %d bytes", len(l), size)
	}
	return l
}

// A page of MaxPage bytes is meant, one of a byte more is not: its file goes when the event is done, and comes again; so it is at Open.
func TestP172MaxPage(t *testing.T) {
	events := widest(t)
	files := logged(payloads(events)...)
	files["blob/e71fa2190541574b-1"] = "abc"
	d := laid(t, -1, files)
	s, err := store.Open(d)
	fine(t, "Open", err)
	pages := func(what string, want int) {
		t.Helper()
		n, err := d.Size("page/wide")
		text, no := s.Page("wide")
		if want > 0 {
			fine(t, what, err)
			fine(t, what, no)
		} else {
			faulty(t, what, no, of(api.ErrNone, "page/wide"))
		}
		if n != want || len(text) != want || s.Broken() || d.Dead() {
			t.Errorf("%s: the page has %d bytes, want %d", what, n, want)
		}
	}
	pages("Open", api.MaxPage)
	for range 2 {
		fine(t, "Do", s.Do(line("deprecate alice wide 1.100.0 61"))) // two digits in the place of a -
		pages("a byte more", 0)
		fine(t, "Restart", d.Restart(-1))
		fine(t, "Do", s.Do(line("deprecate alice wide 1.100.0 6162")))
		if d.Writes() != 2 {
			t.Errorf("Do about a page that is not meant: %d raw writes", d.Writes())
		}
		pages("more still", 0)
		fine(t, "Do", s.Do(line("deprecate alice wide 1.100.0 -")))
		pages("as it was", api.MaxPage)
	}
	fine(t, "Do", s.Do(line("deprecate alice wide 1.100.0 61")))
	was := d.Copy()
	for _, name := range []string{"page/wide", "page/other"} {
		fine(t, "Put on the disk", d.Put(name, "by hand"))
	}
	s, err = store.Open(d)
	fine(t, "Open", err)
	pages("Open, behind a hand", 0)
	if !disk.Same(d, was) {
		t.Error("Open: a page that is not meant stays")
	}
	fine(t, "Put on the disk", d.Put("page/wide", "by hand"))
	fine(t, "Restart", d.Restart(2))
	fine(t, "Do, cut at Remove of the page", s.Do(line("deprecate alice wide 1.100.0 6162")))
	if !s.Broken() || !d.Dead() || s.Head() != len(events)+8 {
		t.Errorf("Do, cut at Remove of the page: Broken = %v, Head = %d", s.Broken(), s.Head())
	}
	fine(t, "Restart", d.Restart(-1))
	s, err = store.Open(d)
	fine(t, "Open", err)
	pages("Open, behind a cut at Remove", 0)
}

// Of each call that writes, cut in each raw write: what it answers, what lies there, what the store tells, and that it does no more; then what is opened.
func TestP173EachCut(t *testing.T) {
	base := busy(t)
	files := base.m.files
	calls := []func(r *run){}
	for _, e := range lines("account carol 0000000000000003", "team bob ops", "yank alice zoo 1.0.0", "own bob foo alice", "deprecate bob foo 2.0.0 "+strings.Repeat("00", 100), "join bob dev alice") {
		calls = append(calls, func(r *run) { r.do(e) })
	}
	for i, bytes := range []string{"", "abc", "new", strings.Repeat("long", 40), alike(0), alike(3)} {
		calls = append(calls, func(r *run) {
			r.publish("bob", "bar-baz", fmt.Sprintf("1.0.%d", i), []api.Need{{Name: "a", Span: "*"}}, bytes)
		})
		calls = append(calls, func(r *run) { r.publish("alice", "new", fmt.Sprintf("1.0.%d", i), nil, bytes) })
	}
	for i, call := range calls {
		for cut := 0; ; cut++ {
			r := begun(t, files)
			r.power(cut)
			call(r)
			done := !r.d.Dead()
			if done == r.s.Broken() {
				t.Errorf("call %d, cut %d: Broken = %v", i, cut, r.s.Broken())
			}
			behind := maps.Clone(r.m.files)
			call(r)
			r.power(-1)
			r.tells("a store behind a cut")
			if !done {
				call(r)
				lies(t, "a broken store", r.d, behind)
			}
			r.open()
			if done {
				break
			}
		}
		if t.Failed() {
			t.Fatalf("call %d", i)
		}
	}
}
