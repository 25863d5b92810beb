package page_test

import (
	"fmt"
	"math"
	"math/rand/v2"
	"strings"
	"testing"

	"yankline/api"
	"yankline/fold"
	"yankline/page"
)

// script is events of all kinds that fit, though some of them no rule allows: one takes a package's last holder away.
func script() model {
	return events(
		"account alice 0000000000000001", "account bob 0000000000000001", "account a 00000000000000ff", "team bob dev", "team alice ops", "leave alice ops alice",
		"publish alice foo 1.10.0 0 0123456789abcdef 1 3",
		"publish alice foo 1.9.0 2 bar-baz >=1.0.0_<2.0.0-0 foo =1.0.0_||_>2.0.0 ffffffffffffffff 4294967295 65536",
		"publish bob bar-baz 0.0.1-rc.1 1 zoo ! 0000000000000000 2 0",
		"yank alice foo 1.9.0", "own alice foo dev", "own bob foo a", "join bob dev alice",
		"deprecate alice foo 1.10.0 6f6b", "publish a foo 1.10.0-0 1 a * 8000000000000000 1 1", "yank bob foo 1.10.0",
		"publish alice a 0.0.0 0 0000000000000000 1 0", "disown alice a alice",
		"deprecate bob bar-baz 0.0.1-rc.1 00ff200a", "unyank bob foo 1.9.0", "disown bob foo alice", "deprecate bob foo 1.10.0 -",
		"own bob a ops", "own bob a bob", "publish bob bar-baz 0.0.1 0 00000000000000ff 1 7", "leave bob dev bob", "deprecate a foo 1.10.0-0 2d", "publish bob zoo 1.0.0 0 0000000000000000 1 1",
	)
}

func TestP161Examples(t *testing.T) {
	s := of(t, events("account alice 0000000000000001", "publish alice foo 1.0.0 0 0000000000000000 1 0"))
	want := "page foo 2\nholders alice\nrelease 1.0.0 alice 2 0000000000000000 1 0 - -\n"
	p, err := page.Of(s, "foo")
	if text, no := page.Text(p); err != nil || text != want || no != api.OK {
		t.Errorf("Text of Of(foo) = %q, %v, %v, want %q", text, no, err, want)
	}
	if !page.Same(p, api.Page{Name: "foo", At: 2, Holders: []string{"alice"}, Releases: []api.Release{{Version: "1.0.0", By: "alice", At: 2, N: 1}}}) {
		t.Errorf("Of(foo) = %s", told(p))
	}
	p, err = page.Of(s, "bar")
	faulty(t, "Of(bar)", err, api.ErrNone, "bar", -1)
	p, err = page.Of(nil, "foo")
	faulty(t, "Of without a state", err, api.ErrNil, "", -1)
	if !same(p, api.Page{}) {
		t.Errorf("Of without a state = %s", told(p))
	}
}

// The whole of one page, said apart from the model.
func TestP161Whole(t *testing.T) {
	s := of(t, script())
	want := "page foo 27\nholders a dev\n" +
		"release 1.9.0 alice 8 ffffffffffffffff 4294967295 65536 - -\nneed bar-baz >=1.0.0_<2.0.0-0\nneed foo =1.0.0_||_>2.0.0\n" +
		"release 1.10.0-0 a 15 8000000000000000 1 1 - 2d\nneed a *\n" +
		"release 1.10.0 alice 7 0123456789abcdef 1 3 yanked -\n"
	p, err := page.Of(s, "foo")
	if text, no := page.Text(p); err != nil || text != want || no != api.OK {
		t.Errorf("Text of Of(foo) = %q, %v, %v, want %q", text, no, err, want)
	}
	p, err = page.Of(s, "bar-baz")
	want = "page bar-baz 25\nholders bob\nrelease 0.0.1-rc.1 bob 9 0000000000000000 2 0 - 00ff200a\nneed zoo !\nrelease 0.0.1 bob 25 00000000000000ff 1 7 - -\n"
	if text, no := page.Text(p); err != nil || text != want || no != api.OK {
		t.Errorf("Text of Of(bar-baz) = %q, %v, %v, want %q", text, no, err, want)
	}
}

// Behind each event of a script all pages are what the events say.
func TestP161Script(t *testing.T) {
	m := script()
	s := fold.New()
	tells(t, s, nil)
	for i, e := range m {
		if err := s.Apply(e); err != nil {
			t.Fatalf("Apply of event %d: %v", i, err)
		}
		tells(t, s, m[:i+1])
	}
	p, _ := m[:18].page("a")
	if text := textOf(p); len(p.Holders) > 0 || !strings.HasPrefix(text, "page a 18\nholders\nrelease") {
		t.Errorf("a package without holders has the page %q", text)
	}
}

// pool are events of few names, of all kinds.
func pool() model {
	var lines []string
	for _, who := range []string{"alice", "bob"} {
		lines = append(lines, "account "+who+" 0000000000000001", "team "+who+" dev", "join "+who+" dev alice", "join "+who+" dev bob", "leave "+who+" dev alice", "leave "+who+" dev bob")
		for _, title := range []string{"foo", "f-oo", "a", "bar-baz"} {
			for i, version := range []string{"1.0.0-rc", "1.10.0", "1.9.0", "1.0.0"} {
				lines = append(lines, "publish "+who+" "+title+" "+version+" 0 0000000000000000 1 0", fmt.Sprintf("publish %s %s %s 2 aa >=1.0.0_<2.0.0 foo * %016x %d %d", who, title, version, i, i+1, i*9))
				for _, deed := range []string{"yank", "unyank"} {
					lines = append(lines, deed+" "+who+" "+title+" "+version)
				}
				lines = append(lines, "deprecate "+who+" "+title+" "+version+" -", "deprecate "+who+" "+title+" "+version+" 0a20")
			}
			for _, holder := range []string{"alice", "bob", "dev"} {
				lines = append(lines, "own "+who+" "+title+" "+holder, "disown "+who+" "+title+" "+holder)
			}
		}
	}
	return events(lines...)
}

// scripts goes over states, behind each event of scripts that are put together out of the pool, the same ones always.
func scripts(t *testing.T, seed uint64, count int, each func(was, s *fold.State, m model)) {
	t.Helper()
	r := rand.New(rand.NewPCG(16, seed))
	l := pool()
	for range count {
		s, m := fold.New(), model{}
		for range 400 {
			e := l[r.IntN(len(l))]
			was := s.Copy()
			if s.Apply(e) != nil {
				continue
			}
			m = append(m, e)
			each(was, s, m)
		}
	}
}

func TestP161Scripts(t *testing.T) {
	n := 0
	scripts(t, 1, 12, func(_, s *fold.State, m model) {
		n++
		tells(t, s, m)
	})
	if n < 500 {
		t.Errorf("but %d events fitted", n)
	}
}

// full is a page that may be, with all that one can have.
func full() api.Page {
	return api.Page{Name: "foo-bar", At: 40, Holders: []string{"alice", "bob", "dev2"}, Releases: []api.Release{
		{Version: "1.0.0-rc.1", By: "alice", At: 7, Needs: []api.Need{{Name: "a-b", Span: ">=1.0.0 <2.0.0-0"}, {Name: "c", Span: "*"}, {Name: "d", Span: "=1.0.0 || >2.0.0"}}, Sum: 0x0123456789abcdef, N: 1, Size: 3, Note: "ok"},
		{Version: "1.9.0", By: "carol", At: 40, N: math.MaxUint32, Size: 65536, Yanked: true},
		{Version: "1.10.0", By: "bob", At: 1, Needs: []api.Need{{Name: "foo-bar", Span: "!"}}, Sum: math.MaxUint64, N: 2, Yanked: true, Note: "\x00\xff \n-"},
	}}
}

// with is the full page with one thing changed.
func with(change func(p *api.Page)) api.Page {
	p := full()
	change(&p)
	return p
}

// needs are n of them, rising.
func needs(n int) []api.Need {
	var l []api.Need
	for i := range n {
		l = append(l, api.Need{Name: fmt.Sprintf("n%05d", i), Span: "*"})
	}
	return l
}

// names are n of them, rising.
func names(n int) []string {
	var l []string
	for i := range n {
		l = append(l, fmt.Sprintf("h%05d", i))
	}
	return l
}

// longVersion and longSpan are texts of as many bytes as there may be.
func longVersion() string { return "1.0.0-" + strings.Repeat("abcdefghijklmno.", 7) + "abcdefghij" }

func longSpan() string {
	text := "1.0.0-" + strings.Repeat("abcdefghijklmno.", 3) + "abcdef"
	return ">=" + text + " <" + strings.Replace(text, "1", "2", 1) + "12345678"[:128-4-2*len(text)]
}

// ones are pages that may be, some of them just so.
func ones() []api.Page {
	long, form := strings.Repeat("z", 64), strings.Repeat("a-", 31)+"99"
	every := ""
	for c := range 256 {
		every += string([]byte{byte(c)})
	}
	one := api.Release{Version: "0.0.0", By: "a", At: 1, N: 1}
	l := []api.Page{
		full(),
		{Name: "a", At: 1, Releases: []api.Release{one}}, // nobody's
		{Name: "1", At: 2, Holders: []string{"a"}, Releases: []api.Release{one}},
		{Name: form, At: math.MaxInt, Holders: []string{long}, Releases: []api.Release{{Version: longVersion(), By: long, At: math.MaxInt, Needs: []api.Need{{Name: form, Span: longSpan()}}, Sum: math.MaxUint64, N: math.MaxUint32, Size: 65536, Yanked: true, Note: every}}},
		{Name: "log", At: 3, Holders: names(2000), Releases: []api.Release{one}}, // a name that is reserved
		{Name: "page", At: 9, Holders: []string{"holders", "need", "page", "release", "yanked"}, Releases: []api.Release{{Version: "1.0.0", By: "release", At: 9, N: 1, Needs: []api.Need{{Name: "need", Span: "*"}}}}},
	}
	for _, note := range []string{"-", "6f6b", " ", "\n", "_", "yanked", strings.Repeat("x", 256)} {
		l = append(l, with(func(p *api.Page) { p.Releases[1].Note = note }))
	}
	for _, x := range []uint64{0, 1, 9, 10, 15, 16, 1 << 60, 1 << 63} {
		l = append(l, with(func(p *api.Page) { p.Releases[1].Sum = x }))
	}
	for _, text := range []string{"*", "!", "=1.0.0", ">=1.0.0", "<1.0.0", ">1.0.0 <=2.0.0", "=1.0.0 || =2.0.0 || >3.0.0-0", longSpan()} {
		l = append(l, with(func(p *api.Page) { p.Releases[0].Needs[1].Span = text }))
	}
	for _, version := range []string{"1.0.1", "1.0.0", "1.0.0-rc.2", "1.0.0-rc.10", "1.0.0-rc.1.0", "1.9.9", "1.10.0-0"} {
		l = append(l, with(func(p *api.Page) { p.Releases[1].Version = version }))
	}
	many := api.Page{Name: "many", At: 300, Holders: []string{"a"}}
	for i := range 300 {
		many.Releases = append(many.Releases, api.Release{Version: fmt.Sprintf("0.%d.0", i), By: "a", At: 300 - i, N: 1, Yanked: i%2 > 0})
	}
	return append(l, many,
		with(func(p *api.Page) { p.Releases[0].Needs = needs(64) }),
		with(func(p *api.Page) { p.Releases[0].Needs, p.Releases[2].Needs = needs(64), needs(64) }),
		with(func(p *api.Page) { p.Releases[2].Needs = nil }),
		with(func(p *api.Page) { p.Releases = p.Releases[1:2] }),
		with(func(p *api.Page) { p.Holders = nil }),
		with(func(p *api.Page) { p.Holders = p.Holders[1:2] }),
		with(func(p *api.Page) { p.Releases[0].At, p.Releases[2].At = 1, 2 }),
		with(func(p *api.Page) { p.At = math.MaxInt }),
	)
}

// nones are pages that may not be, by one thing each.
func nones() []api.Page {
	l := []api.Page{{}, {Name: "a"}, {Name: "a", At: 1}, {Name: "a", At: 1, Holders: []string{"a"}}, with(func(p *api.Page) { p.Releases = nil })}
	add := func(change func(p *api.Page)) { l = append(l, with(change)) }
	for _, title := range []string{"", "Foo", "foo_bar", "foo--bar", "foo.bar", "-", "foo-", "foo bar", "foo\n", "\xff", "é", strings.Repeat("a", 65)} {
		add(func(p *api.Page) { p.Name = title })
		add(func(p *api.Page) { p.Releases[0].Needs[0].Name = title })
		add(func(p *api.Page) { p.Releases[2].Needs[0].Name = title })
	}
	for _, who := range []string{"", "2a", "A", "Alice", "a-b", "a_b", "a b", "a\n", "\x00", "\xff", strings.Repeat("a", 65)} {
		add(func(p *api.Page) { p.Holders = []string{who} })
		add(func(p *api.Page) { p.Holders[0] = who })
		add(func(p *api.Page) { p.Holders[2] = who })
		add(func(p *api.Page) { p.Holders = append(p.Holders, who) })
		add(func(p *api.Page) { p.Releases[0].By = who })
		add(func(p *api.Page) { p.Releases[2].By = who })
	}
	for _, holders := range [][]string{{"a", "a"}, {"b", "a"}, {"a", "b", "b"}, {"a", "c", "b"}, {"a", "b", "a"}, {"a", "aa", "a"}, {"a9", "a10"}, append(names(2000), "a")} {
		add(func(p *api.Page) { p.Holders = holders })
	}
	for _, version := range []string{"", "1", "1.0", "01.0.0", "1.0.0-", "1.0.0 ", "v1.0.0", "1.0.0-A", "2147483648.0.0", "1.0.0+b", longVersion() + "k"} {
		for i := range 3 {
			add(func(p *api.Page) { p.Releases[i].Version = version })
		}
	}
	for _, version := range []string{"1.0.0-rc.1", "1.10.0", "0.9.0", "1.10.1", "1.0.0-rc.0", "1.0.0-rc", "2.0.0"} {
		add(func(p *api.Page) { p.Releases[1].Version = version })
	}
	for _, at := range []int{0, -1, 41, math.MaxInt, math.MinInt} {
		for i := range 3 {
			add(func(p *api.Page) { p.Releases[i].At = at })
		}
	}
	for _, at := range []int{0, -1, 1, 39, math.MinInt} {
		add(func(p *api.Page) { p.At = at })
	}
	for i := range 3 {
		add(func(p *api.Page) { p.Releases[i].At = p.Releases[(i+1)%3].At })
		add(func(p *api.Page) { p.Releases[i].N = 0 })
		add(func(p *api.Page) { p.Releases[i].Size = 65537 })
		add(func(p *api.Page) { p.Releases[i].Size = math.MaxUint32 })
		add(func(p *api.Page) { p.Releases[i].Note = strings.Repeat("x", 257) })
		add(func(p *api.Page) { p.Releases[i].Note = strings.Repeat("x", 1<<20) })
		add(func(p *api.Page) { p.Releases[i].Needs = needs(65) })
		add(func(p *api.Page) { p.Releases[i].Needs = needs(100000) })
	}
	for _, text := range []string{"", "^1.0.0", "1.0.0", " *", "* ", ">=1.0.0  <2.0.0", ">=1.0.0_<2.0.0", "=1.0.0||=2.0.0", "=1.0.0\n", "\xff", longSpan() + "9"} {
		add(func(p *api.Page) { p.Releases[0].Needs[0].Span = text })
		add(func(p *api.Page) { p.Releases[0].Needs[2].Span = text })
	}
	for _, l := range [][]api.Need{{{}}, {{Name: "a", Span: "*"}, {Name: "a", Span: "!"}}, {{Name: "b", Span: "*"}, {Name: "a", Span: "*"}}, {{Name: "a", Span: "*"}, {Name: "c", Span: "*"}, {Name: "b", Span: "*"}}, {{Name: "a", Span: "*"}, {}}} {
		add(func(p *api.Page) { p.Releases[1].Needs = l })
	}
	return l
}

func TestP161Text(t *testing.T) {
	for _, p := range ones() {
		if !may(p) {
			t.Errorf("the model refuses %.300s", told(p))
		}
		if text, no := page.Text(p); text != textOf(p) || no != api.OK {
			t.Errorf("Text(%.300s) = %.300q, %v, want %.300q", told(p), text, no, textOf(p))
		}
	}
	for _, p := range nones() {
		if may(p) {
			t.Errorf("the model takes %.300s", told(p))
		}
		if text, no := page.Text(p); text != "" || no != api.ErrPage {
			t.Errorf("Text(%.300s) = %.300q, %v, want nothing, ErrPage", told(p), text, no)
		}
	}
}

// Pages that are put together of parts, some of which may be and some not, the same ones always.
func TestP161TextMixed(t *testing.T) {
	r := rand.New(rand.NewPCG(16, 2))
	some := func(l ...string) string { return l[r.IntN(len(l))] }
	taken := 0
	for range 30000 {
		p := api.Page{Name: some("a", "foo", "foo", "foo", "a-b", "A"), At: r.IntN(6)}
		for range r.IntN(3) {
			p.Holders = append(p.Holders, some("a", "b", "c", "d", "2"))
		}
		for range r.IntN(4) {
			one := api.Release{Version: some("0.9.0", "1.0.0-a", "1.0.0", "1.9.0", "1.10.0", "1.0"), By: some("a", "b", "c", "d", "e", "-"), At: r.IntN(6), N: uint32(min(r.IntN(5), 1)), Size: uint32(r.IntN(9)), Yanked: r.IntN(2) > 0, Note: some("", "x")}
			for range r.IntN(3) {
				one.Needs = append(one.Needs, api.Need{Name: some("a", "b", "c", "c-d"), Span: some("*", "!", "=1.0.0", ">=1.0.0 <2.0.0", "=1.0.0", "1.0.0")})
			}
			p.Releases = append(p.Releases, one)
		}
		want, no := "", api.ErrPage
		if may(p) {
			want, no = textOf(p), api.OK
			taken++
		}
		if text, e := page.Text(p); text != want || e != no {
			t.Errorf("Text(%s) = %q, %v, want %q, %v", told(p), text, e, want, no)
		}
		read(t, textOf(p))
	}
	if taken < 500 {
		t.Errorf("but %d of the pages may be", taken)
	}
}

func TestP161Same(t *testing.T) {
	l := append(append(ones()[:8], nones()[:60]...), with(func(p *api.Page) { p.At++ }), with(func(p *api.Page) { p.Releases[0].Yanked = true }), with(func(p *api.Page) { p.Releases[2].Note += "x" }),
		with(func(p *api.Page) { p.Releases[1].Note = "x" }), with(func(p *api.Page) { p.Releases[1].Sum++ }), with(func(p *api.Page) { p.Releases[1].N-- }), with(func(p *api.Page) { p.Releases[1].Size-- }), with(func(p *api.Page) { p.Releases[1].By = "bob" }),
		with(func(p *api.Page) { p.Releases[1].At-- }), with(func(p *api.Page) { p.Releases[1].Version = "1.9.1" }), with(func(p *api.Page) { p.Releases[2].Version = "1.10.1" }), with(func(p *api.Page) { p.Releases[0].Needs[1].Span = "!" }),
		with(func(p *api.Page) { p.Releases[0].Needs[1].Name = "cc" }), with(func(p *api.Page) { p.Releases[0].Needs = p.Releases[0].Needs[:2] }), with(func(p *api.Page) { p.Holders = p.Holders[:2] }), with(func(p *api.Page) { p.Holders[1] = "carol" }),
		with(func(p *api.Page) { p.Releases = p.Releases[:2] }), with(func(p *api.Page) { p.Releases[0], p.Releases[1] = p.Releases[1], p.Releases[0] }), with(func(p *api.Page) { p.Name = "foo" }), with(func(p *api.Page) { p.Holders[0], p.Holders[1] = p.Holders[1], p.Holders[0] }))
	for i, a := range l {
		for _, b := range l[i:] {
			want := same(a, b)
			if page.Same(a, b) != want || page.Same(b, a) != want {
				t.Errorf("Same(%.300s, %.300s) is not %t", told(a), told(b), want)
			}
		}
	}
	if !page.Same(full(), full()) || !page.Same(api.Page{}, api.Page{}) {
		t.Error("a page is not the same as itself")
	}
}

// None and nothing are the same.
func TestP161SameNone(t *testing.T) {
	empty := api.Page{Holders: []string{}, Releases: []api.Release{}}
	if !page.Same(empty, api.Page{}) || !page.Same(api.Page{}, empty) {
		t.Error("no list is not the same as one of nothing")
	}
	bare := with(func(p *api.Page) { p.Releases[1].Needs = []api.Need{} })
	if !page.Same(bare, full()) || !page.Same(full(), bare) {
		t.Error("no needs are not the same as a list of none")
	}
	for _, p := range []api.Page{{Holders: []string{""}}, {Releases: []api.Release{{}}}, {At: -1}, {Name: " "}} {
		if page.Same(p, empty) || page.Same(empty, p) {
			t.Errorf("Same(%s) and nothing", told(p))
		}
	}
}
