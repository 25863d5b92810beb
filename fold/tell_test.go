package fold_test

import (
	"fmt"
	"slices"
	"strings"
	"testing"

	"yankline/api"
	"yankline/fold"
)

// list holds that a call tells that list, and whether there is what it tells of.
func list(t *testing.T, what string, got []string, is bool, want string, there bool) {
	t.Helper()
	if fmt.Sprint(got) != "["+want+"]" || is != there {
		t.Errorf("%s = %q, %t, want %s, %t", what, got, is, want, there)
	}
}

// What the base tells, said apart from the model.
func TestP103Base(t *testing.T) {
	s := of(t, base()...)
	list(t, "Accounts", s.Accounts(), true, "alice bob carol", true)
	list(t, "Teams", s.Teams(), true, "dev ops", true)
	list(t, "Packages", slices.Collect(s.Packages()), true, "bar-baz foo", true)
	for team, want := range map[string]string{"dev": "alice bob", "ops": ""} {
		l, is := s.Members(team)
		list(t, "Members of "+team, l, is, want, true)
	}
	for name, want := range map[string]string{"foo": "alice dev", "bar-baz": "alice bob"} {
		l, is := s.Holders(name)
		list(t, "Holders of "+name, l, is, want, true)
	}
	if s.Head() != 14 || s.Touched("foo") != 9 || s.Touched("bar-baz") != 12 {
		t.Errorf("Head, Touched = %d, %d, %d", s.Head(), s.Touched("foo"), s.Touched("bar-baz"))
	}
	if sum, is := s.Account("bob"); sum != 0xb0b || !is {
		t.Errorf("Account of bob = %x, %t", sum, is)
	}
	want := "[{1.0.0 alice 5 [] 0 1 0 false ok} {1.1.0 alice 6 [{bar-baz >=0.9.0 <1.0.0-0}] 81985529216486895 2 65536 true }]"
	if got := fmt.Sprint(s.Releases("foo")); got != want {
		t.Errorf("Releases of foo = %s, want %s", got, want)
	}
	r, is := s.Release("bar-baz", "0.9.0")
	if want := "{0.9.0 bob 11 [{aa *} {foo =1.0.0}] 255 3 7 false }"; fmt.Sprint(r) != want || !is {
		t.Errorf("Release of bar-baz 0.9.0 = %v, %t, want %s", r, is, want)
	}
}

// Of what is no name, or the name of something else, nothing is told.
func TestP103None(t *testing.T) {
	for _, s := range []*fold.State{fold.New(), of(t, base()...)} {
		for _, text := range nones() {
			if sum, is := s.Account(text); sum != 0 || is {
				t.Errorf("Account(%.80q) = %d, %t", text, sum, is)
			}
			l, is := s.Members(text)
			list(t, "Members of none", l, is, "", false)
			l, is = s.Holders(text)
			list(t, "Holders of none", l, is, "", false)
			if at := s.Touched(text); at != 0 {
				t.Errorf("Touched(%.80q) = %d", text, at)
			}
			if l := s.Releases(text); len(l) != 0 {
				t.Errorf("Releases(%.80q) = %v", text, l)
			}
			for _, two := range [][2]string{{text, "1.0.0"}, {"foo", text}, {text, text}, {"bar-baz", "1.0.0"}} {
				if r, is := s.Release(two[0], two[1]); fmt.Sprint(r) != fmt.Sprint(api.Release{}) || is {
					t.Errorf("Release(%.80q) = %v, %t", two, r, is)
				}
			}
		}
	}
}

// nones are texts that name nothing in the base, though some are other forms of what is a name there.
func nones() []string {
	return []string{
		"", "Alice", "ALICE", " alice", "alice\n", "Dev", "Foo", "FOO", "foo ", "f-oo", "bar_baz", "bar--baz", "Bar-Baz", "barbaz", "dave", "new", "1.0", "01.0.0", "v1.0.0", "1.0.0 ", "1.0.1",
		"\x00", "\xff", "föö", "foo\x001.0.0", strings.Repeat("a", 65), strings.Repeat("-", 1<<17), strings.Repeat("\xff", 1<<17),
	}
}

// An account, a team and a package may have one name; what is asked for is told.
func TestP103OneName(t *testing.T) {
	s := of(t, "account foo 0000000000000001", "team foo bar", "publish foo foo 1.0.0 0 0000000000000002 1 0", "publish foo bar 2.0.0 0 0000000000000003 1 0", "own foo bar bar")
	if _, is := s.Account("bar"); is {
		t.Error("there is an account bar")
	}
	if sum, is := s.Account("foo"); sum != 1 || !is {
		t.Errorf("Account(foo) = %d, %t", sum, is)
	}
	for what, l := range map[string][]string{"foo": {"", "foo"}, "bar": {"foo", "bar foo"}} {
		members, is := s.Members(what)
		list(t, "Members", members, is, l[0], what == "bar")
		holders, is := s.Holders(what)
		list(t, "Holders", holders, is, l[1], true)
	}
}

// A team and a package that have lost all are there still.
func TestP103Empty(t *testing.T) {
	s := of(t, append(base(), "leave alice dev alice", "leave alice dev bob", "disown alice foo dev", "disown alice foo alice")...)
	l, is := s.Members("dev")
	list(t, "Members", l, is, "", true)
	l, is = s.Holders("foo")
	list(t, "Holders", l, is, "", true)
	list(t, "Packages", slices.Collect(s.Packages()), true, "bar-baz foo", true)
	if len(s.Releases("foo")) != 2 || s.Touched("foo") != 18 {
		t.Errorf("Releases, Touched = %v, %d", s.Releases("foo"), s.Touched("foo"))
	}
}

// Names and versions rise, in whatever order they came; versions as layer 7 has them, not as texts.
func TestP103Rising(t *testing.T) {
	names := []string{"9", "a", "a-b", "a-c-9", "a0", "aa", "ab-c", "b"}
	holders := []string{"a", "a0", "a9", "aa", "ab", "b", "z0"}
	for turn := range 7 {
		lines := []string{"account zz 0000000000000000"}
		for i := range holders {
			lines = append(lines, "account "+holders[(i*3+turn)%7]+" 0000000000000000")
		}
		lines = append(lines, "team zz team", "leave zz team zz")
		for i := range names {
			lines = append(lines, "publish zz "+names[(i*3+turn)%8]+" 1.0.0 0 0000000000000000 1 0")
		}
		l := versions()
		for i := range l {
			lines = append(lines, "publish zz pack "+l[(i*4+turn)%len(l)]+" 0 0000000000000000 1 0")
		}
		for i := range holders {
			lines = append(lines, "join zz team "+holders[(i*4+turn)%7], "own zz pack "+holders[(i*5+turn)%7], "team zz t"+holders[(i*2+turn)%7])
		}
		s := of(t, lines...)
		list(t, "Accounts", s.Accounts(), true, strings.Join(holders, " ")+" zz", true)
		list(t, "Teams", s.Teams(), true, "ta ta0 ta9 taa tab tb team tz0", true)
		list(t, "Packages", slices.Collect(s.Packages()), true, strings.Join(names, " ")+" pack", true)
		members, is := s.Members("team")
		list(t, "Members", members, is, strings.Join(holders, " "), true)
		holding, is := s.Holders("pack")
		list(t, "Holders", holding, is, strings.Join(holders, " ")+" zz", true)
		var got []string
		for _, r := range s.Releases("pack") {
			got = append(got, r.Version)
		}
		list(t, "Releases", got, true, strings.Join(versions(), " "), true)
	}
}

func TestP103Touched(t *testing.T) {
	lines := base()
	for _, c := range []struct {
		line     string
		foo, bar int
	}{
		{"own carol foo bob", 15, 12},
		{"team carol web", 15, 12},
		{"join carol web bob", 15, 12},
		{"leave carol web bob", 15, 12},
		{"account foo 0000000000000001", 15, 12},
		{"disown carol foo bob", 20, 12},
		{"yank carol bar-baz 0.9.0", 20, 21},
		{"unyank carol bar-baz 0.9.0", 20, 22},
		{"deprecate carol foo 1.1.0 00", 23, 22},
		{"publish carol foo 9.0.0 1 bar-baz * 0000000000000001 1 1", 23 + 1, 22}, // what it needs is not touched
		{"team carol bar", 24, 22},
		{"publish carol zoo 9.0.0 0 0000000000000001 1 1", 24, 22},
	} {
		lines = append(lines, c.line)
		s := of(t, lines...)
		if foo, bar := s.Touched("foo"), s.Touched("bar-baz"); foo != c.foo || bar != c.bar {
			t.Errorf("behind %s: Touched = %d, %d, want %d, %d", c.line, foo, bar, c.foo, c.bar)
		}
	}
}

func TestP103Like(t *testing.T) {
	long := strings.Repeat("a", 63) + "-"
	s := of(t, append(base(), "publish alice "+strings.Repeat("a", 64)+" 1.0.0 0 0000000000000001 1 1", "publish alice a-1-b 1.0.0 0 0000000000000001 1 1")...)
	for _, c := range []struct{ raw, want string }{
		{"foo", ""}, {"FOO", ""}, {"Foo", ""}, {"f-oo", "foo"}, {"f.o_o", "foo"}, {"F--O.-O", "foo"}, {"-foo", ""}, {"foo-", ""}, {"f oo", ""}, {"fo", ""}, {"fooo", ""}, {"", ""}, {"-", ""},
		{"bar-baz", ""}, {"bar_baz", ""}, {"BAR.-_BAZ", ""}, {"barbaz", "bar-baz"}, {"Barbaz", "bar-baz"}, {"ba-rbaz", "bar-baz"}, {"bar-b-az", "bar-baz"}, {"b-a-r-b-a-z", "bar-baz"}, {"barba", ""},
		{"a1b", "a-1-b"}, {"a-1b", "a-1-b"}, {"A1-B", "a-1-b"}, {"a-1-b", ""}, {"a.1.b", ""}, {"a\xff1b", ""}, {"a1b\x00", ""},
		{strings.Repeat("a", 64), ""}, {strings.Repeat("A", 64), ""}, {long + "a", ""}, {"a-" + strings.Repeat("a", 63), ""}, {strings.Repeat("a-", 63) + "a", ""}, {strings.Repeat("a", 1<<17), ""}, {"f" + strings.Repeat("-", 61) + "oo", "foo"}, {"f" + strings.Repeat("-", 62) + "oo", ""},
		{"alice", ""}, {"a-lice", ""}, {"d-ev", ""}, // names of accounts and teams are no packages'
	} {
		if other, is := s.Like(c.raw); other != c.want || is != (c.want != "") {
			t.Errorf("Like(%.80q) = %q, %t, want %q", c.raw, other, is, c.want)
		}
	}
}

// The walk over the names tells those that there are when it begins, and may be left and gone over again.
func TestP103Walk(t *testing.T) {
	s := of(t, "account alice 0000000000000001", "publish alice b 1.0.0 0 0000000000000001 1 1")
	walk := s.Packages()
	publish := func(name string) {
		if err := s.Apply(read("publish alice " + name + " 1.0.0 0 0000000000000001 1 1")); err != nil {
			t.Errorf("Apply: %v", err)
		}
	}
	publish("c")
	list(t, "Packages", slices.Collect(walk), true, "b c", true)
	var met []string
	for name := range walk {
		met = append(met, name)
		publish(name + "0")
		publish("a" + name)
	}
	list(t, "Packages, with others coming", met, true, "b c", true)
	for name := range walk {
		if name != "ab" {
			t.Errorf("the first package is %s", name)
		}
		break
	}
	for range 2 {
		list(t, "Packages", slices.Collect(walk), true, "ab ac b b0 c c0", true)
	}
}
