package page_test

import (
	"strings"
	"testing"

	"yankline/api"
	"yankline/event"
	"yankline/fold"
	"yankline/page"
)

// back holds that Read of the text of p is p, and Text of that the text.
func back(t *testing.T, p api.Page) {
	t.Helper()
	text, no := page.Text(p)
	if no != api.OK {
		t.Errorf("Text(%.300s): %v", told(p), no)
	}
	got, n, err := page.Read(text)
	if err != nil || n != strings.Count(text, "\n") || !same(got, p) || !page.Same(got, p) {
		t.Errorf("Read of the text of %.300s = %.300s, %d, %v", told(p), told(got), n, err)
	}
	if again, no := page.Text(got); again != text || no != api.OK {
		t.Errorf("Text of Read of the text of %.300s = %.300q, %v", told(p), again, no)
	}
}

func TestP163ThereAndBack(t *testing.T) {
	texts := map[string]api.Page{}
	for _, p := range ones() {
		back(t, p)
		text, _ := page.Text(p)
		if other, is := texts[text]; is && !same(other, p) {
			t.Errorf("%.300s and %.300s have one text", told(p), told(other))
		}
		texts[text] = p
	}
}

// What Read takes is written as it was: a page has one text.
func TestP163OneText(t *testing.T) {
	s := textOf(full())
	for at := range len(s) {
		for _, c := range []string{"", "0", "1", "a", "-", " ", "\n", "b" + s[at:at+1]} {
			one := s[:at] + c + s[at+1:]
			p, _, err := page.Read(one)
			if err != nil {
				continue
			}
			if text, no := page.Text(p); text != one || no != api.OK {
				t.Errorf("Text of Read(%q) = %q, %v", one, text, no)
			}
		}
	}
}

// Behind each event of scripts Text of Of is what All tells, and is read back; no page but that of the package that the event names is another one.
func TestP163Scripts(t *testing.T) {
	changed, kinds := 0, map[api.Kind]int{}
	scripts(t, 4, 12, func(was, s *fold.State, m model) {
		e := m[len(m)-1]
		kinds[e.Kind]++
		about, is := event.About(e)
		ahead := map[string]string{}
		for title, text := range page.All(was) {
			ahead[title] = text
		}
		n := 0
		for title, text := range page.All(s) {
			n++
			p, err := page.Of(s, title)
			if told, no := page.Text(p); err != nil || told != text || no != api.OK {
				t.Errorf("Text of Of(%s) = %q, %v, %v, All tells %q", title, told, no, err, text)
			}
			back(t, p)
			if is && title == about {
				if text == ahead[title] {
					t.Errorf("by %v the page of %s stays as it was", e, title)
				}
				changed++
			} else if text != ahead[title] {
				t.Errorf("by %v the page of %s, %q, is %q", e, title, ahead[title], text)
			}
		}
		if n < len(ahead) {
			t.Errorf("by %v of %d pages %d are left", e, len(ahead), n)
		}
	})
	for k := api.Account; k <= api.Leave; k++ {
		if kinds[k] < 5 {
			t.Errorf("but %d events of the kind %d", kinds[k], k)
		}
	}
	if changed < 300 {
		t.Errorf("but %d events changed a page", changed)
	}
}

// By teams' changes the owners of a package are others, its page is not.
func TestP163Teams(t *testing.T) {
	s := of(t, script())
	want, _ := page.Of(s, "foo")
	for _, e := range events("account carol 0000000000000003", "leave bob dev alice", "join bob dev carol", "team carol more") {
		if err := s.Apply(e); err != nil {
			t.Fatalf("Apply(%v): %v", e, err)
		}
		if p, err := page.Of(s, "foo"); err != nil || !page.Same(p, want) {
			t.Errorf("behind %v Of(foo) = %s, %v, want %s", e, told(p), err, told(want))
		}
	}
}
