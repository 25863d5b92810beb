package span_test

import (
	"regexp"
	"slices"
	"strconv"
	"strings"
	"testing"

	"yankline/api"
	"yankline/span"
	"yankline/version"
)

// A model of spans: of versions that are told, rising, the least of all first, each is an atom (at twice its place), and so is what stands between it and the next one (behind that). A set has some of them.
type set []bool

var comparison = regexp.MustCompile(`^(|=|<|<=|>|>=|~|\^)([0-9].*)$`)

// told is what a comparison says: from a version on, and to which.
type told struct {
	low, high         string // nothing: no end
	lowOpen, highOpen bool
}

// modelComparison is what s says, as the chapter's words have it, and whether it is a comparison.
func modelComparison(s string) (told, bool) {
	m := comparison.FindStringSubmatch(s)
	if m == nil || !version.Is(m[2]) {
		return told{}, false
	}
	v, _ := version.Read(m[2])
	switch sign, text := m[1], m[2]; sign {
	case "", "=":
		return told{low: text, high: text}, true
	case "<":
		return told{low: "0.0.0-0", high: text, highOpen: true}, true
	case "<=":
		return told{low: "0.0.0-0", high: text}, true
	case ">":
		return told{low: text, lowOpen: true}, true
	case ">=":
		return told{low: text}, true
	case "~":
		return told{low: text, high: minor(v), highOpen: true}, true
	}
	switch {
	case v.Major > 0:
		return told{low: m[2], high: major(v), highOpen: true}, true
	case v.Minor > 0:
		return told{low: m[2], high: minor(v), highOpen: true}, true
	}
	return told{low: m[2], high: patch(v), highOpen: true}, true
}

// major, minor and patch are the texts of the least versions with one more there; nothing, if there are none.
func major(v api.Version) string {
	if v.Major == api.MaxNumber {
		return ""
	}
	return numbered(v.Major+1, 0, 0)
}

func minor(v api.Version) string {
	if v.Minor == api.MaxNumber {
		return ""
	}
	return numbered(v.Major, v.Minor+1, 0)
}

func patch(v api.Version) string {
	if v.Patch == api.MaxNumber {
		return ""
	}
	return numbered(v.Major, v.Minor, v.Patch+1)
}

func numbered(l ...uint32) string {
	var texts []string
	for _, n := range l {
		texts = append(texts, strconv.FormatUint(uint64(n), 10))
	}
	return strings.Join(texts, ".") + "-0"
}

// model is the versions that bounds of s are, and the set that s says among them, and whether s is a span's text.
func model(s string) ([]string, set, bool) {
	if len(s) > 128 {
		return nil, nil, false
	}
	alternatives := strings.Split(s, " || ")
	if len(alternatives) > 16 {
		return nil, nil, false
	}
	var meant [][]told
	bounds := []string{"0.0.0-0"}
	for _, alternative := range alternatives {
		if alternative == "!" {
			continue
		}
		l := []told{{low: "0.0.0-0"}}
		if alternative != "*" {
			comparisons := strings.Split(alternative, " ")
			for _, s := range comparisons {
				one, ok := modelComparison(s)
				if !ok || len(comparisons) > 16 {
					return nil, nil, false
				}
				l = append(l, one)
				bounds = append(bounds, one.low)
				if one.high != "" {
					bounds = append(bounds, one.high)
				}
			}
		}
		meant = append(meant, l)
	}
	bounds, e := version.Sort(bounds...)
	if e != api.OK {
		panic(e)
	}
	all := make(set, 2*len(bounds))
	for atom := range all {
		all[atom] = slices.ContainsFunc(meant, func(l []told) bool {
			return !slices.ContainsFunc(l, func(one told) bool { return !one.has(bounds, atom) })
		})
	}
	return bounds, all, true
}

// has is whether an atom is in what a comparison says.
func (c told) has(bounds []string, atom int) bool {
	low := 2 * slices.Index(bounds, c.low)
	if atom < low || atom == low && c.lowOpen {
		return false
	}
	high := 2 * slices.Index(bounds, c.high)
	return c.high == "" || atom < high || atom == high && !c.highOpen
}

// runs tells where the atoms of l that stand side by side begin, and behind which they end.
func (l set) runs(tell func(from, to int)) {
	for from := 0; from < len(l); from++ {
		if !l[from] {
			continue
		}
		to := from
		for to+1 < len(l) && l[to+1] {
			to++
		}
		tell(from, to)
		from = to
	}
}

// intervals is l as a span in its one form.
func (l set) intervals(t *testing.T, bounds []string) []api.Interval {
	var span []api.Interval
	l.runs(func(from, to int) {
		i := api.Interval{Low: api.Bound{At: read(t, bounds[from/2]), Open: from%2 == 1}}
		switch {
		case to == len(l)-1:
			i.Endless = true
		case to%2 == 0:
			i.High = api.Bound{At: read(t, bounds[to/2])}
		default:
			i.High = api.Bound{At: read(t, bounds[to/2+1]), Open: true}
		}
		span = append(span, i)
	})
	return span
}

// text is the text of l in its one form, of whatever length.
func (l set) text(bounds []string) string {
	var alternatives []string
	l.runs(func(from, to int) {
		low, high := "", ""
		switch {
		case from%2 == 1:
			low = ">" + bounds[from/2]
		case from > 0:
			low = ">=" + bounds[from/2]
		}
		switch {
		case to == len(l)-1:
		case to%2 == 0:
			high = "<=" + bounds[to/2]
		default:
			high = "<" + bounds[to/2+1]
		}
		switch {
		case from == to && from%2 == 0:
			alternatives = append(alternatives, "="+bounds[from/2])
		case low == "" && high == "":
			alternatives = append(alternatives, "*")
		default:
			alternatives = append(alternatives, strings.TrimSpace(low+" "+high))
		}
	})
	if alternatives == nil {
		return "!"
	}
	return strings.Join(alternatives, " || ")
}

// read is the version whose text s is.
func read(t *testing.T, s string) api.Version {
	t.Helper()
	v, e := version.Read(s)
	if e != api.OK {
		t.Fatalf("version.Read(%.80q): %v", s, e)
	}
	return v
}

// spanOf is the span that s says.
func spanOf(t *testing.T, s string) []api.Interval {
	t.Helper()
	l, e := span.Read(s)
	if e != api.OK {
		t.Fatalf("Read(%.80q): %v", s, e)
	}
	return l
}

// same is whether both are the same intervals.
func same(a, b []api.Interval) bool {
	return slices.EqualFunc(a, b, func(i, j api.Interval) bool {
		return sameBound(i.Low, j.Low) && sameBound(i.High, j.High) && i.Endless == j.Endless
	})
}

func sameBound(a, b api.Bound) bool {
	v, w := a.At, b.At
	return v.Major == w.Major && v.Minor == w.Minor && v.Patch == w.Patch && slices.Equal(v.Pre, w.Pre) && a.Open == b.Open
}

// atom is that of a version among bounds.
func atom(t *testing.T, bounds []string, v string) int {
	t.Helper()
	place, there := slices.BinarySearchFunc(bounds, v, func(a, b string) int {
		c, e := version.Order(a, b)
		if e != api.OK {
			t.Fatalf("Order(%s, %s): %v", a, b, e)
		}
		return c
	})
	if there {
		return 2 * place
	}
	return 2*place - 1
}

// versions are those that are asked for: ordinary ones, such beside bounds, and both ends of all.
func versions() []string {
	return []string{
		"0.0.0-0", "0.0.0-0.0", "0.0.0-1", "0.0.0-a", "0.0.0", "0.0.1-0", "0.0.1", "0.0.2-0", "0.0.2", "0.0.3", "0.0.4-0", "0.0.4", "0.1.0-0", "0.1.0", "0.2.0-0", "0.2.0", "0.2.3", "0.3.0-0", "0.3.0",
		"1.0.0-0", "1.0.0-a", "1.0.0-a.0", "1.0.0-b", "1.0.0", "1.0.1-0", "1.0.1", "1.1.0", "1.2.0", "1.2.2", "1.2.3-0", "1.2.3-a", "1.2.3-rc.1", "1.2.3", "1.2.4-0", "1.2.4", "1.3.0-0", "1.3.0", "1.9.9-a", "1.9.9",
		"2.0.0-0", "2.0.0-a", "2.0.0", "2.0.1", "3.0.0-0", "3.0.0", "9.9.9", "10.0.0", "2147483647.0.0-0", "2147483647.0.0", "2147483647.2147483647.2147483647-0", "2147483647.2147483647.2147483647",
	}
}

// says holds that s is a span's text and that each call that takes it, or what it says, does as the model does.
func says(t *testing.T, s string) {
	t.Helper()
	bounds, meant, ok := model(s)
	if !ok {
		refused(t, s)
		return
	}
	want, text := meant.intervals(t, bounds), meant.text(bounds)
	l, e := span.Read(s)
	if !same(l, want) || e != api.OK {
		t.Errorf("Read(%q) = %v, %v, want %v", s, l, e, want)
		return
	}
	if e := span.May(l); e != api.OK {
		t.Errorf("May of Read(%q) = %v", s, e)
	}
	e = api.OK
	if len(text) > 128 {
		text, e = "", api.ErrSpan
	}
	if got, f := span.Text(l); got != text || f != e {
		t.Errorf("Text of Read(%q) = %q, %v, want %q, %v", s, got, f, text, e)
	}
	if got, f := span.Form(s); got != text || f != e {
		t.Errorf("Form(%q) = %q, %v, want %q, %v", s, got, f, text, e)
	}
	if got := span.Is(s); got != (e == api.OK && text == s) {
		t.Errorf("Is(%q) = %t, its form is %q", s, got, text)
	}
	if e == api.OK {
		formed(t, s, text, l)
	}
}

// formed holds that text, the form of s, which says l, is that of itself.
func formed(t *testing.T, s, text string, l []api.Interval) {
	t.Helper()
	if again, e := span.Read(text); !same(again, l) || e != api.OK {
		t.Errorf("Read(%q) = %v, %v, and Read of its form %q = %v", s, l, e, text, again)
	}
	if again, e := span.Form(text); again != text || e != api.OK || !span.Is(text) {
		t.Errorf("Form(%q) = %q, %v, the form of %q", text, again, e, s)
	}
}

// refused holds that s is no span's text, and that nothing is told beside the error.
func refused(t *testing.T, s string) {
	t.Helper()
	if l, e := span.Read(s); len(l) != 0 || e != api.ErrSpan {
		t.Errorf("Read(%.80q) = %v, %v, want nothing, ErrSpan", s, l, e)
	}
	if text, e := span.Form(s); text != "" || e != api.ErrSpan {
		t.Errorf("Form(%.80q) = %q, %v, want nothing, ErrSpan", s, text, e)
	}
	if span.Is(s) {
		t.Errorf("Is(%.80q) = true", s)
	}
	for _, l := range [][]string{nil, {"1.0.0"}, {"none"}} {
		if text, ok, e := span.Pick(s, l...); text != "" || ok || e != api.ErrSpan {
			t.Errorf("Pick(%.80q, %q) = %q, %t, %v, want nothing, ErrSpan", s, l, text, ok, e)
		}
	}
}

// hasAs holds that Has tells of each version whether the model's set has it.
func hasAs(t *testing.T, l []api.Interval, bounds []string, meant set) {
	t.Helper()
	for _, v := range versions() {
		want := meant[atom(t, bounds, v)]
		if got, e := span.Has(l, read(t, v)); got != want || e != api.OK {
			t.Errorf("Has(%q, %s) = %t, %v, want %t", meant.text(bounds), v, got, e, want)
		}
	}
}
