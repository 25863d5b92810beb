package page_test

import (
	"encoding/hex"
	"errors"
	"fmt"
	"math"
	"regexp"
	"slices"
	"strconv"
	"strings"
	"testing"

	"yankline/api"
	"yankline/event"
	"yankline/fold"
	"yankline/name"
	"yankline/page"
	"yankline/span"
	"yankline/version"
)

// model is events, all of which fit, in order. A page is worked out of them anew each time it is asked for.
type model []api.Event

// page is that of a package, and whether there is one.
func (m model) page(title string) (api.Page, bool) {
	p, is := api.Page{Name: title}, false
	holders := map[string]bool{}
	for i, e := range m {
		if e.Name != title || e.Name == "" {
			continue
		}
		p.At = i + 1
		at := slices.IndexFunc(p.Releases, func(r api.Release) bool { return r.Version == e.Version })
		switch e.Kind {
		case api.Publish:
			if !is {
				holders[e.Who], is = true, true
			}
			p.Releases = append(p.Releases, api.Release{Version: e.Version, By: e.Who, At: i + 1, Needs: e.Needs, Sum: e.Sum, N: e.N, Size: e.Size})
		case api.Yank, api.Unyank:
			p.Releases[at].Yanked = e.Kind == api.Yank
		case api.Deprecate:
			p.Releases[at].Note = e.Note
		case api.Own, api.Disown:
			holders[e.Holder] = e.Kind == api.Own
		}
	}
	for one, holds := range holders {
		if holds {
			p.Holders = append(p.Holders, one)
		}
	}
	slices.Sort(p.Holders)
	slices.SortFunc(p.Releases, func(a, b api.Release) int { return order(a.Version, b.Version) })
	return p, is
}

func order(a, b string) int {
	c, _ := version.Order(a, b)
	return c
}

// names are those of the packages, rising.
func (m model) names() []string {
	var l []string
	for _, e := range m {
		if e.Kind == api.Publish && !slices.Contains(l, e.Name) {
			l = append(l, e.Name)
		}
	}
	slices.Sort(l)
	return l
}

// textOf is how the chapter says that p is written, whether it may be or not.
func textOf(p api.Page) string {
	var b strings.Builder
	fmt.Fprintf(&b, "page %s %d\nholders", p.Name, p.At)
	for _, one := range p.Holders {
		b.WriteString(" " + one)
	}
	b.WriteString("\n")
	for _, r := range p.Releases {
		state, note := "-", "-"
		if r.Yanked {
			state = "yanked"
		}
		if r.Note != "" {
			note = hex.EncodeToString([]byte(r.Note))
		}
		fmt.Fprintf(&b, "release %s %s %d %016x %d %d %s %s\n", r.Version, r.By, r.At, r.Sum, r.N, r.Size, state, note)
		for _, n := range r.Needs {
			fmt.Fprintf(&b, "need %s %s\n", n.Name, strings.ReplaceAll(n.Span, " ", "_"))
		}
	}
	return b.String()
}

// rising is whether each of l is below the next one.
func rising(l []string, order func(a, b string) int) bool {
	for i := 1; i < len(l); i++ {
		if order(l[i-1], l[i]) >= 0 {
			return false
		}
	}
	return true
}

// may is whether p may be: each need of the chapter, one by one.
func may(p api.Page) bool {
	if !name.Is(p.Name) || p.At < 1 || len(p.Releases) == 0 || !rising(p.Holders, strings.Compare) {
		return false
	}
	for _, one := range p.Holders {
		if name.Holder(one) != api.OK {
			return false
		}
	}
	var versions []string
	var ats []int
	for _, r := range p.Releases {
		if !mayRelease(r) || r.At < 1 || r.At > p.At || slices.Contains(ats, r.At) {
			return false
		}
		versions, ats = append(versions, r.Version), append(ats, r.At)
	}
	return rising(versions, order)
}

func mayRelease(r api.Release) bool {
	var needs []string
	for _, n := range r.Needs {
		if !name.Is(n.Name) || !span.Is(n.Span) {
			return false
		}
		needs = append(needs, n.Name)
	}
	return version.Is(r.Version) && name.Holder(r.By) == api.OK && len(needs) <= 64 && rising(needs, strings.Compare) &&
		r.N >= 1 && r.Size <= 65536 && len(r.Note) <= 256
}

var (
	pageForm    = regexp.MustCompile(`^page ([^ ]+) (0|[1-9][0-9]*)$`)
	holdersForm = regexp.MustCompile(`^holders((?: [^ ]+)*)$`)
	releaseForm = regexp.MustCompile(`^release ([^ ]+) ([^ ]+) (0|[1-9][0-9]*) ([0-9a-f]{16}) (0|[1-9][0-9]*) (0|[1-9][0-9]*) (yanked|-) (-|(?:[0-9a-f]{2})+)$`)
	needForm    = regexp.MustCompile(`^need ([^ ]+) ([^ ]+)$`)
)

// number is what digits say; less than any number that may be, if they say more than there is room for.
func number(s string) int {
	n, err := strconv.Atoi(s)
	if err != nil {
		return math.MinInt
	}
	return n
}

// grown is p with what the n-th line has, and whether it is such a line.
func grown(p api.Page, n int, line string) (api.Page, bool) {
	if n == 1 {
		w := pageForm.FindStringSubmatch(line)
		if w == nil {
			return p, false
		}
		p.Name, p.At = w[1], number(w[2])
		return p, true
	}
	if n == 2 {
		w := holdersForm.FindStringSubmatch(line)
		if w == nil {
			return p, false
		}
		p.Holders = strings.Fields(w[1])
		return p, strings.Join(append([]string{"holders"}, p.Holders...), " ") == line // no other white space
	}
	if w := needForm.FindStringSubmatch(line); w != nil && n > 3 {
		last := &p.Releases[len(p.Releases)-1]
		last.Needs = append(last.Needs, api.Need{Name: w[1], Span: strings.ReplaceAll(w[2], "_", " ")})
		return p, true
	}
	w := releaseForm.FindStringSubmatch(line)
	if w == nil {
		return p, false
	}
	r := api.Release{Version: w[1], By: w[2], At: number(w[3]), Yanked: w[7] == "yanked"}
	r.Sum, _ = strconv.ParseUint(w[4], 16, 64)
	count, size := number(w[5]), number(w[6])
	if min(count, size) < 0 || max(count, size) > math.MaxUint32 {
		return p, false
	}
	r.N, r.Size = uint32(count), uint32(size)
	if w[8] != "-" {
		note, _ := hex.DecodeString(w[8])
		r.Note = string(note)
	}
	p.Releases = append(p.Releases, r)
	return p, true
}

// begins is whether p, as far as it goes, is a page's beginning: with a release, if it has none, it may be.
func begins(p api.Page) bool {
	if len(p.Releases) == 0 {
		p.Releases = []api.Release{{Version: "1.0.0", By: "a", At: 1, N: 1}}
	}
	return may(p)
}

// modelRead is what Read tells of a text of at most MaxFile bytes: the page, how many lines it has, and whether it is one; else which line is wrong.
func modelRead(s string) (api.Page, int, bool) {
	p := api.Page{}
	l := strings.SplitAfter(s, "\n")
	if l[len(l)-1] == "" {
		l = l[:len(l)-1]
	}
	for i, line := range l {
		text, ended := strings.CutSuffix(line, "\n")
		is := false
		if p, is = grown(p, i+1, text); !ended || !is || !begins(p) {
			return api.Page{}, i + 1, false
		}
	}
	if !may(p) {
		return api.Page{}, len(l) + 1, false
	}
	return p, len(l), true
}

// same is whether all of both is the same, by how they are told.
func same(a, b api.Page) bool { return told(a) == told(b) }

// told is all that p has.
func told(p api.Page) string {
	text := fmt.Sprintf("%q %d %q", p.Name, p.At, p.Holders)
	for _, r := range p.Releases {
		text += fmt.Sprintf("; %q %q %d %q %d %d %d %t %q", r.Version, r.By, r.At, r.Needs, r.Sum, r.N, r.Size, r.Yanked, r.Note)
	}
	return text
}

// read holds that Read tells of s what the model does.
func read(t *testing.T, s string) {
	t.Helper()
	want, line, is := modelRead(s)
	p, n, err := page.Read(s)
	if is {
		if err != nil || n != line || !same(p, want) {
			t.Errorf("Read(%.300q) = %.300s, %d, %v, want %.300s, %d", s, told(p), n, err, told(want), line)
		}
		return
	}
	wrong(t, s, p, n, err, line)
}

// wrong holds that what Read told of s is that this line is wrong, and nothing beside.
func wrong(t *testing.T, s string, p api.Page, n int, err error, line int) {
	t.Helper()
	if n != line || !same(p, api.Page{}) {
		t.Errorf("Read(%.300q) = %.300s, %d, want nothing, %d", s, told(p), n, line)
	}
	faulty(t, fmt.Sprintf("Read(%.300q)", s), err, api.ErrPage, "", line)
}

// faulty holds that err is the fault of that number, of that name and at that line, with nothing under it.
func faulty(t *testing.T, what string, err error, no api.Errno, of string, at int) {
	t.Helper()
	var f *api.Fault
	if !errors.As(err, &f) || *f != (api.Fault{Code: no, What: of, At: at}) || !errors.Is(err, no) {
		t.Errorf("%s: %v, want %v of %q at %d", what, err, no, of, at)
	}
}

// events are those of the lines.
func events(lines ...string) model {
	var m model
	for _, line := range lines {
		e, no := event.ReadText(line)
		if no != api.OK {
			panic("no event's line: " + line)
		}
		m = append(m, e)
	}
	return m
}

// of is the state that the events make.
func of(t *testing.T, m model) *fold.State {
	t.Helper()
	s, at, err := fold.Of(m...)
	if err != nil {
		t.Fatalf("Of: event %d of %v: %v", at, m, err)
	}
	return s
}

// asked are the texts whose pages are asked for: names of all kinds of things, other forms of such, and what is none's name.
func asked() []string {
	return []string{
		"foo", "bar-baz", "a", "zoo", "f-oo", "barbaz", "bar", "alice", "dev", "1",
		"", "Foo", "FOO", "foo-", "bar_baz", "bar.baz", "bar--baz", "foo ", " foo", "foo\n", "foo 1.0.0", "page/foo", "\x00", "\xff", strings.Repeat("a", 64), strings.Repeat("a", 65), strings.Repeat("foo", 1<<18),
	}
}

// tells holds that of s, which the events made, Of, Text and All tell what the model does.
func tells(t *testing.T, s *fold.State, m model) {
	t.Helper()
	for _, title := range asked() {
		want, is := m.page(title)
		p, err := page.Of(s, title)
		if !is {
			if !same(p, api.Page{}) {
				t.Errorf("behind %d events Of(%.80q) = %s, want nothing", len(m), title, told(p))
			}
			faulty(t, fmt.Sprintf("Of(%.80q)", title), err, api.ErrNone, title, -1)
			continue
		}
		if err != nil || !same(p, want) {
			t.Errorf("behind %d events Of(%q) = %s, %v, want %s", len(m), title, told(p), err, told(want))
		}
		if text, no := page.Text(p); text != textOf(want) || no != api.OK {
			t.Errorf("behind %d events the text of %q is %q, %v, want %q", len(m), title, text, no, textOf(want))
		}
	}
	var got, want []string
	for title, text := range page.All(s) {
		got = append(got, title, text)
	}
	for _, title := range m.names() {
		p, _ := m.page(title)
		want = append(want, title, textOf(p))
	}
	if !slices.Equal(got, want) {
		t.Errorf("behind %d events All tells %q, want %q", len(m), got, want)
	}
}
