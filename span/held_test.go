package span_test

import (
	"slices"
	"testing"

	"yankline/api"
	"yankline/span"
	"yankline/version"
)

// some are texts of spans whose versions have identifiers, and of such as have none.
func some() []string {
	return []string{"!", "*", "=1.0.0", "=1.0.0-a.b", "=1.0.0-a.b || =2.0.0-a.b.c", ">=1.0.0-a <2.0.0-b.c || >2.0.0-b.c <3.0.0-d || >=9.0.0-x", ">0.0.0-0", "^1.2.3-rc.1", "~1.2.3", "<1.0.0-a.b.c || >1.0.0-a.b.c", ">1.0.0-a <=1.0.0-b || ^2.0.0 || =1.0.0-a"}
}

// clone is l with memory of its own, and with room behind each list of identifiers, and behind itself.
func clone(l []api.Interval) []api.Interval {
	var span []api.Interval
	for _, i := range l {
		i.Low.At.Pre = roomy(i.Low.At.Pre)
		i.High.At.Pre = roomy(i.High.At.Pre)
		span = append(span, i)
	}
	return append(slices.Grow(span, 2), api.Interval{Low: api.Bound{Open: true}})[:len(span)]
}

func roomy(l []string) []string {
	return append(slices.Clip(slices.Clone(l)), "spare", "spare")[:len(l)]
}

// whole is whether l, whose room is as clone made it, is still what it was made from.
func whole(l, from []api.Interval) bool {
	for _, i := range l {
		for _, pre := range [][]string{i.Low.At.Pre, i.High.At.Pre} {
			if spare := pre[len(pre) : len(pre)+2]; spare[0] != "spare" || spare[1] != "spare" {
				return false
			}
		}
	}
	spare := l[:len(l)+1][len(l)]
	return same(l, from) && same([]api.Interval{spare}, []api.Interval{{Low: api.Bound{Open: true}}})
}

// call does each of the calls that take a or b.
func call(a, b []api.Interval) {
	span.May(a)
	span.Text(a)
	span.Has(a, api.Version{Major: 1})
	span.Not(a)
	for _, l := range [][2][]api.Interval{{a, a}, {a, b}, {b, a}} {
		span.Meet(l[0], l[1])
		span.Join(l[0], l[1])
	}
}

// What is handed in stays as it was, its spare room too.
func TestP01HandedIn(t *testing.T) {
	var spans [][]api.Interval
	for _, s := range some() {
		spans = append(spans, spanOf(t, s))
	}
	spans = append(spans, list(t, "2.0.0-a", "1.0.0-b", "1.0.0", "1.0.0-c"), list(t, "1.0.0-a", "", "1.0.0-a", ""), apart(1, 16), apart(1, 17)) // what is no span stays, too
	for _, a := range spans {
		for _, b := range spans {
			x, y := clone(a), clone(b)
			call(x, y)
			if !whole(x, a) || !whole(y, b) {
				t.Errorf("a call changed one of %v, %v: %v, %v", a, b, x, y)
			}
		}
	}
	for _, l := range [][]string{{"2.0.0", "1.0.0", "1.0.0", "1.0.0-a", "spare"}, {"1.0.0", "1.0.0", "1.0.0", "0.0.1", "spare"}, {"2.0.0", "1.0.0", "none", "1.0.0", "spare"}} {
		room := slices.Clone(l)
		span.Pick("<=1.0.0", room[:4]...)
		if !slices.Equal(room, l) {
			t.Errorf("Pick changed its texts %q: %q", l, room)
		}
	}
	pre := []string{"a", "b", "spare"}
	span.Has(spanOf(t, "^1.0.0-a"), api.Version{Major: 1, Pre: pre[:2]})
	if !slices.Equal(pre, []string{"a", "b", "spare"}) {
		t.Errorf("Has changed its version: %q", pre)
	}
}

// overwrite writes over l: over its identifiers, its intervals, and the spare room of all.
func overwrite(l []api.Interval) {
	l = l[:cap(l)]
	for i := range l {
		for _, pre := range [][]string{l[i].Low.At.Pre, l[i].High.At.Pre} {
			pre = pre[:cap(pre)]
			for at := range pre {
				pre[at] = "written over"
			}
		}
		l[i] = api.Interval{Low: api.Bound{At: api.Version{Major: 77}}}
	}
}

// answers are what the calls that answer spans make of a and b.
func answers(a, b []api.Interval) [][]api.Interval {
	met, _ := span.Meet(a, b)
	itself, _ := span.Meet(a, a)
	joined, _ := span.Join(a, b)
	alone, _ := span.Join(a, nil)
	behind, _ := span.Join(nil, a)
	not, _ := span.Not(a)
	again, _ := span.Not(not)
	return [][]api.Interval{met, itself, joined, alone, behind, not, again}
}

// An answer may be written over, its spare room too: neither what was handed in nor another answer changes.
func TestP01NewMemory(t *testing.T) {
	for _, s := range some() {
		for _, other := range some() {
			a, b := spanOf(t, s), spanOf(t, other)
			x, y := clone(a), clone(b)
			first, want := answers(x, y), answers(a, b)
			for i, l := range first {
				overwrite(l)
				for j, k := range first[i+1:] {
					if !same(k, want[i+1+j]) {
						t.Errorf("the answers %d and %d of %q, %q share memory", i, i+1+j, s, other)
					}
				}
			}
			if !whole(x, a) || !whole(y, b) {
				t.Errorf("an answer of %q, %q shares memory with what was handed in", s, other)
			}
		}
		first := spanOf(t, s)
		want := clone(first)
		overwrite(spanOf(t, s))
		if !same(first, want) || !same(spanOf(t, s), want) {
			t.Errorf("two answers of Read(%q) share memory", s)
		}
	}
}

// No two lists of one answer share memory.
func TestP01Lists(t *testing.T) {
	for _, s := range append(some(), "1.0.0-a.b", "~1.0.0-a", ">=1.0.0-a <=1.0.0-a", "<1.0.0-a || >1.0.0-a") {
		for _, other := range some() {
			for n, l := range append(answers(spanOf(t, s), spanOf(t, other)), spanOf(t, s)) {
				listsApart(t, l, s, n)
			}
		}
	}
}

// listsApart holds that each list of identifiers may be written over, and none but it changes.
func listsApart(t *testing.T, l []api.Interval, s string, n int) {
	t.Helper()
	lists := func() [][]string {
		var all [][]string
		for _, i := range l {
			all = append(all, i.Low.At.Pre, i.High.At.Pre)
		}
		return all
	}
	for at, pre := range lists() {
		var was [][]string
		for _, other := range lists() {
			was = append(was, slices.Clone(other))
		}
		for i := range pre[:cap(pre)] {
			pre[:cap(pre)][i] += "x"
		}
		for i, other := range lists() {
			if i != at && !slices.Equal(other, was[i]) {
				t.Errorf("the answer %d for %q: its lists %d and %d share memory", n, s, at, i)
			}
		}
	}
}

// A call answers the same whatever was called before.
func TestP01Again(t *testing.T) {
	for range 2 {
		for _, s := range append(some(), nones()...) {
			l, _ := span.Read(s)
			call(l, apart(1, 17))
			span.Form(s)
			span.Is(s)
			span.Pick(s, "1.0.0", "none")
			span.Pick(s, "2.0.0", "1.0.0")
		}
		form(t, "^1.2.3", ">=1.2.3 <2.0.0-0")
		form(t, "<=1.0.0 || >1.0.0", "*")
		picked(t, "1.2.0", "^1.0.0", "1.1.0", "2.0.0", "1.2.0")
		hasIt(t, spanOf(t, "^1.0.0"), "1.9.9-a", true)
		refused(t, ">= 1.0.0")
	}
}

// What versions a call answers are such as may be, whatever it was handed.
func TestP01Answers(t *testing.T) {
	for _, s := range some() {
		for _, other := range some() {
			for _, l := range answers(spanOf(t, s), spanOf(t, other)) {
				for _, i := range l {
					if version.May(i.Low.At) != api.OK || version.May(i.High.At) != api.OK || i.Endless && !sameBound(i.High, api.Bound{}) {
						t.Errorf("an answer for %q, %q has %v", s, other, i)
					}
				}
			}
		}
	}
}
