package span_test

import (
	"math"
	"slices"
	"strings"
	"testing"

	"yankline/api"
	"yankline/span"
)

// interval is from one version to another, both of which are texts; a sign ahead of them says that the bound is not in it, and no text behind that there is no end.
func interval(t *testing.T, low, high string) api.Interval {
	t.Helper()
	i := api.Interval{Low: bound(t, low)}
	if high == "" {
		i.Endless = true
		return i
	}
	i.High = bound(t, high)
	return i
}

func bound(t *testing.T, s string) api.Bound {
	t.Helper()
	text, open := strings.CutPrefix(s, "!")
	return api.Bound{At: read(t, text), Open: open}
}

// list is the intervals whose lows and highs are handed in by turns.
func list(t *testing.T, l ...string) []api.Interval {
	t.Helper()
	var span []api.Interval
	for i := 0; i < len(l); i += 2 {
		span = append(span, interval(t, l[i], l[i+1]))
	}
	return span
}

// apart are n intervals that are told by two places each, from the first on.
func apart(first, n int) []api.Interval {
	var l []api.Interval
	for i := range n {
		at := uint32(first + 2*i)
		l = append(l, api.Interval{Low: api.Bound{At: api.Version{Major: at}}, High: api.Bound{At: api.Version{Major: at + 1}}})
	}
	return l
}

// may holds that l is a span in its one form, which each call takes.
func may(t *testing.T, l []api.Interval, text string) {
	t.Helper()
	if e := span.May(l); e != api.OK {
		t.Errorf("May(%v) = %v", l, e)
	}
	if s, e := span.Text(l); s != text || e != api.OK {
		t.Errorf("Text(%v) = %q, %v, want %q", l, s, e, text)
	}
	if got, e := span.Read(text); !same(got, l) || e != api.OK {
		t.Errorf("Read(%q) = %v, %v, want %v", text, got, e, l)
	}
	if got, e := span.Meet(l, l); !same(got, l) || e != api.OK {
		t.Errorf("Meet of %q and it = %v, %v", text, got, e)
	}
	if got, e := span.Join(l, l); !same(got, l) || e != api.OK {
		t.Errorf("Join of %q and it = %v, %v", text, got, e)
	}
}

// mayNot holds that l is no span in its one form: each call refuses it, and tells nothing beside that.
func mayNot(t *testing.T, l []api.Interval) {
	t.Helper()
	if e := span.May(l); e != api.ErrSpan {
		t.Errorf("May(%.200v) = %v, want ErrSpan", l, e)
	}
	if s, e := span.Text(l); s != "" || e != api.ErrSpan {
		t.Errorf("Text(%.200v) = %q, %v, want nothing, ErrSpan", l, s, e)
	}
	for _, v := range []api.Version{{Major: 1}, {Major: math.MaxUint32}, {Pre: []string{""}}} { // that v may not be is named behind
		if ok, e := span.Has(l, v); ok || e != api.ErrSpan {
			t.Errorf("Has(%.200v, %v) = %t, %v, want false, ErrSpan", l, v, ok, e)
		}
	}
	for _, other := range [][]api.Interval{nil, list(t, "0.0.0-0", ""), list(t, "1.0.0", "2.0.0"), l} {
		for _, both := range [][2][]api.Interval{{l, other}, {other, l}} {
			if got, e := span.Meet(both[0], both[1]); len(got) != 0 || e != api.ErrSpan {
				t.Errorf("Meet(%.200v) = %v, %v, want nothing, ErrSpan", both, got, e)
			}
			if got, e := span.Join(both[0], both[1]); len(got) != 0 || e != api.ErrSpan {
				t.Errorf("Join(%.200v) = %v, %v, want nothing, ErrSpan", both, got, e)
			}
		}
	}
	if got, e := span.Not(l); len(got) != 0 || e != api.ErrSpan {
		t.Errorf("Not(%.200v) = %v, %v, want nothing, ErrSpan", l, got, e)
	}
}

func TestP81May(t *testing.T) {
	may(t, nil, "!")
	may(t, []api.Interval{}, "!")
	may(t, []api.Interval{{}}, "=0.0.0")
	may(t, []api.Interval{{Endless: true}}, ">=0.0.0")
	may(t, list(t, "0.0.0-0", ""), "*")
	may(t, list(t, "!0.0.0-0", ""), ">0.0.0-0")
	may(t, list(t, "0.0.0-0", "0.0.0-0"), "=0.0.0-0")
	may(t, list(t, "0.0.0-0", "!0.0.0-1"), "<0.0.0-1")
	may(t, list(t, "0.0.0-0", "0.0.0-1"), "<=0.0.0-1")
	may(t, list(t, "1.0.0", "1.0.0"), "=1.0.0")
	may(t, list(t, "1.0.0", "2.0.0"), ">=1.0.0 <=2.0.0")
	may(t, list(t, "!1.0.0", "2.0.0"), ">1.0.0 <=2.0.0")
	may(t, list(t, "1.0.0", "!2.0.0"), ">=1.0.0 <2.0.0")
	may(t, list(t, "!1.0.0", "!2.0.0"), ">1.0.0 <2.0.0")
	may(t, list(t, "!1.0.0-a", "!1.0.0-a.0"), ">1.0.0-a <1.0.0-a.0")
	may(t, list(t, "!1.0.0", "!1.0.1-0"), ">1.0.0 <1.0.1-0")
	may(t, list(t, "!2147483647.2147483647.2147483647", ""), ">2147483647.2147483647.2147483647")
	may(t, list(t, "1.0.0", "!2.0.0", "!2.0.0", ""), ">=1.0.0 <2.0.0 || >2.0.0")
	may(t, list(t, "0.0.1", "0.0.1", "0.0.2-0", "0.0.2-0"), "=0.0.1 || =0.0.2-0")
	may(t, list(t, "0.0.0-0", "!1.0.0", "!1.0.0", "!2.0.0", "!2.0.0", ""), "<1.0.0 || >1.0.0 <2.0.0 || >2.0.0")
	may(t, list(t, "1.0.0-2", "1.0.0-10", "1.0.0-a", ""), ">=1.0.0-2 <=1.0.0-10 || >=1.0.0-a")
}

// An empty list of identifiers is the same as none, also where there is no end.
func TestP81MayEmptyLists(t *testing.T) {
	release := api.Version{Major: 1, Pre: []string{}}
	may(t, []api.Interval{{Low: api.Bound{At: release}, High: api.Bound{At: release}}}, "=1.0.0")
	may(t, []api.Interval{{Low: api.Bound{At: release}, High: api.Bound{At: api.Version{Pre: []string{}}}, Endless: true}}, ">=1.0.0")
}

func TestP81MayEmptyIntervals(t *testing.T) {
	for _, one := range [][2]string{{"1.0.0", "0.9.9"}, {"1.0.0", "1.0.0-rc"}, {"!1.0.0", "1.0.0"}, {"1.0.0", "!1.0.0"}, {"!1.0.0", "!1.0.0"}, {"0.0.0-0", "!0.0.0-0"}, {"!0.0.0-0", "0.0.0-0"}, {"2.0.0", "!1.0.0"}, {"!2.0.0", "1.0.0"}, {"1.0.0-10", "1.0.0-9"}} {
		mayNot(t, list(t, one[0], one[1]))
		mayNot(t, list(t, one[0], one[1], "3.0.0", "4.0.0"))
		mayNot(t, list(t, "0.0.0-0", "0.0.0-0", one[0], one[1]))
	}
}

func TestP81MayOrder(t *testing.T) {
	mayNot(t, list(t, "2.0.0", "3.0.0", "0.1.0", "1.0.0"))              // falling
	mayNot(t, list(t, "1.0.0", "2.0.0", "1.0.0", "2.0.0"))              // the same
	mayNot(t, list(t, "1.0.0", "1.0.0", "1.0.0", "1.0.0"))              // the same
	mayNot(t, list(t, "1.0.0", "2.0.0", "1.5.0", "3.0.0"))              // meeting
	mayNot(t, list(t, "1.0.0", "4.0.0", "2.0.0", "3.0.0"))              // one in the other
	mayNot(t, list(t, "1.0.0", "2.0.0", "2.0.0", "3.0.0"))              // meeting in one version
	mayNot(t, list(t, "1.0.0", "!2.0.0", "2.0.0", "3.0.0"))             // touching
	mayNot(t, list(t, "1.0.0", "2.0.0", "!2.0.0", "3.0.0"))             // touching
	mayNot(t, list(t, "1.0.0", "", "2.0.0", "3.0.0"))                   // behind one without an end
	mayNot(t, list(t, "1.0.0", "", "2.0.0", ""))                        // behind one without an end
	mayNot(t, list(t, "2.0.0", "", "1.0.0", "1.0.0"))                   // behind one without an end
	mayNot(t, list(t, "0.0.0-0", "", "0.0.0-0", ""))                    // all, twice
	mayNot(t, list(t, "0.0.0-0", "!1.0.0", "1.0.0", ""))                // touching, all of them
	mayNot(t, list(t, "1.0.0-a", "1.0.0-b", "1.0.0-10", "1.0.0-11"))    // falling
	mayNot(t, list(t, "1.0.0", "1.0.0", "2.0.0", "2.0.0", "2.0.0", "")) // the last two alone
	mayNot(t, list(t, "0.0.1", "!0.0.2", "!0.0.1", "!0.0.2"))
	mayNot(t, list(t, "!0.0.1", "!0.0.2", "0.0.1", "!0.0.2"))
}

func TestP81MayVersions(t *testing.T) {
	for _, v := range []api.Version{{Major: api.MaxNumber + 1}, {Minor: math.MaxUint32}, {Patch: 1 << 31}, {Pre: []string{""}}, {Pre: []string{"01"}}, {Pre: []string{"A"}}, {Pre: []string{"aaaaaaaaaaaaaaaaa"}}, {Pre: slices.Repeat([]string{"a"}, 9)}, {Pre: make([]string, 1<<16)}} {
		none, least, most := api.Bound{At: v}, bound(t, "0.0.0-0"), bound(t, "2147483647.2147483647.2147483647")
		for _, i := range []api.Interval{{Low: none, High: most}, {Low: least, High: none}, {Low: none, High: none}, {Low: none, Endless: true}, {Low: least, High: none, Endless: true}} {
			mayNot(t, []api.Interval{i})
			mayNot(t, append(list(t, "0.0.0-0", "0.0.0-0"), i))
			mayNot(t, append([]api.Interval{i}, list(t, "2147483647.2147483647.2147483647", "")...))
		}
		if ok, e := span.Has(list(t, "0.0.0-0", ""), v); ok || e != api.ErrVersion {
			t.Errorf("Has(*, %.100v) = %t, %v, want false, ErrVersion", v, ok, e)
		}
		if ok, e := span.Has(nil, v); ok || e != api.ErrVersion {
			t.Errorf("Has(!, %.100v) = %t, %v, want false, ErrVersion", v, ok, e)
		}
	}
}

// High is zero where there is no end.
func TestP81MayEndless(t *testing.T) {
	for _, high := range []api.Bound{{Open: true}, {At: api.Version{Major: 1}}, {At: api.Version{Minor: 1}}, {At: api.Version{Patch: 1}}, {At: api.Version{Pre: []string{"0"}}}, {At: api.Version{Major: 9}, Open: true}} {
		mayNot(t, []api.Interval{{High: high, Endless: true}})
		mayNot(t, []api.Interval{{Low: bound(t, "0.0.0-0"), High: high, Endless: true}})
		mayNot(t, append(list(t, "0.0.1", "0.0.2"), api.Interval{Low: bound(t, "!1.0.0"), High: high, Endless: true}))
	}
}

func TestP81MayMany(t *testing.T) {
	for n := range 40 {
		l := apart(1, n)
		if n > 16 {
			mayNot(t, l)
		} else if e := span.May(l); e != api.OK {
			t.Errorf("May of %d intervals = %v", n, e)
		}
	}
	mayNot(t, make([]api.Interval, 17))
	mayNot(t, make([]api.Interval, 1<<20))
	mayNot(t, apart(1, 1<<16))
	mayNot(t, make([]api.Interval, 2))
}

// A text of MaxText bytes is told, one of a byte more is not; the span may be all the same.
func TestP81TextLong(t *testing.T) {
	for n := 114; n <= 123; n++ { // 12 bytes stand ahead of it
		want, e := "=1.0.0 || >="+long(n), api.OK
		if len(want) > 128 {
			want, e = "", api.ErrSpan
		}
		if text, f := span.Text(list(t, "1.0.0", "1.0.0", long(n), "")); text != want || f != e {
			t.Errorf("Text with a version of %d bytes = %q, %v, want %q, %v", n, text, f, want, e)
		}
	}
	for _, n := range []int{126, 127, 128} {
		want, e := "="+long(n), api.OK
		if n == 128 {
			want, e = "", api.ErrSpan
		}
		if text, f := span.Text(list(t, long(n), long(n))); text != want || f != e {
			t.Errorf("Text of one version of %d bytes = %q, %v, want %q, %v", n, text, f, want, e)
		}
	}
}

// A version may be whose own text is longer than one may be: no text tells it, but each other call takes it.
func TestP81VersionLong(t *testing.T) {
	v := api.Version{Major: 1, Pre: slices.Repeat([]string{"zzzzzzzzzzzzzzzz"}, 8)}
	l := []api.Interval{{Low: api.Bound{At: v}, High: api.Bound{At: v}}}
	for _, l := range [][]api.Interval{l, {{Low: api.Bound{At: v}, Endless: true}}, {{Low: bound(t, "0.0.0-0"), High: api.Bound{At: v}}}, {{Low: bound(t, "1.0.0-0"), High: api.Bound{At: v}}}, {{Low: api.Bound{At: v}, High: bound(t, "1.0.0")}}} {
		if text, e := span.Text(l); text != "" || e != api.ErrSpan {
			t.Errorf("Text(%v) = %q, %v, want nothing, ErrSpan", l, text, e)
		}
		if e := span.May(l); e != api.OK {
			t.Errorf("May(%v) = %v", l, e)
		}
		if ok, e := span.Has(l, v); !ok || e != api.OK {
			t.Errorf("Has(%v) = %t, %v", l, ok, e)
		}
		not, e := span.Not(l)
		if ok, f := span.Has(not, v); ok || e != api.OK || f != api.OK {
			t.Errorf("Has of Not(%v) = %t, %v, %v", l, ok, e, f)
		}
		if again, e := span.Not(not); !same(again, l) || e != api.OK {
			t.Errorf("Not of Not(%v) = %v, %v", l, again, e)
		}
	}
}
