package span_test

import (
	"testing"

	"yankline/api"
	"yankline/span"
)

// sets are all there are of the atoms of so many bounds.
func sets(bounds int) []set {
	var l []set
	for bits := range 1 << (2 * bounds) {
		one := make(set, 2*bounds)
		for atom := range one {
			one[atom] = bits>>atom&1 == 1
		}
		l = append(l, one)
	}
	return l
}

// combined is what a rule makes of two sets, atom by atom.
func combined(a, b set, rule func(a, b bool) bool) set {
	one := make(set, len(a))
	for atom := range one {
		one[atom] = rule(a[atom], b[atom])
	}
	return one
}

// Between 0.0.1 and 0.0.2-0 no version stands; it is a place all the same.
func bounds() []string { return []string{"0.0.0-0", "0.0.1", "0.0.2-0", "1.0.0-rc.1", "1.0.0"} }

func not(a, _ bool) bool { return !a }
func and(a, b bool) bool { return a && b }
func or(a, b bool) bool  { return a || b }

// Each set of five bounds: what it is as a span, its text, what it has, and what it has not.
func TestP84All(t *testing.T) {
	for _, one := range sets(len(bounds())) {
		l, text := one.intervals(t, bounds()), one.text(bounds())
		if got, e := span.Text(l); e != api.OK || got != text || span.May(l) != api.OK || !span.Is(text) {
			t.Fatalf("Text(%v) = %q, %v, want %q", l, got, e, text)
		}
		if got, e := span.Read(text); !same(got, l) || e != api.OK {
			t.Fatalf("Read(%q) = %v, %v, want %v", text, got, e, l)
		}
		other := combined(one, one, not)
		want := other.intervals(t, bounds())
		got, e := span.Not(l)
		if !same(got, want) || e != api.OK {
			t.Fatalf("Not(%q) = %v, %v, want %v", text, got, e, want)
		}
		if again, e := span.Not(got); !same(again, l) || e != api.OK {
			t.Fatalf("Not of Not(%q) = %v, %v", text, again, e)
		}
		hasAs(t, l, bounds(), one)
		hasAs(t, got, bounds(), other)
	}
}

// Each two sets of four bounds: what is in both, and what is in one of both.
func TestP84Pairs(t *testing.T) {
	l := sets(4)
	var spans [][]api.Interval
	for _, one := range l {
		spans = append(spans, one.intervals(t, bounds()))
	}
	for i, a := range l {
		for j, b := range l {
			met, joined := combined(a, b, and).intervals(t, bounds()), combined(a, b, or).intervals(t, bounds())
			if got, e := span.Meet(spans[i], spans[j]); !same(got, met) || e != api.OK {
				t.Fatalf("Meet(%q, %q) = %v, %v, want %v", a.text(bounds()), b.text(bounds()), got, e, met)
			}
			if got, e := span.Join(spans[i], spans[j]); !same(got, joined) || e != api.OK {
				t.Fatalf("Join(%q, %q) = %v, %v, want %v", a.text(bounds()), b.text(bounds()), got, e, joined)
			}
		}
	}
}

// What Has says of Meet, Join and Not is and, or, not, of spans as they are written.
func TestP84Has(t *testing.T) {
	texts := []string{"!", "*", "^1.2.3", "~1.2.3-a", "^0.0.3", "^0.2.0", ">=1.0.0 <2.0.0 || =2.0.0", "<=1.0.0", ">1.0.0", "<1.0.0-a || >2.0.0", "=1.2.3 || =1.2.4 || >=9.9.9", ">=1.0.0-a <1.0.0 || ^2.0.0", "0.0.0-0 || 2147483647.2147483647.2147483647", ">0.0.0-0", "<=1.2.3-rc.1 || >=1.2.3"}
	for _, a := range texts {
		for _, b := range texts {
			x, y := spanOf(t, a), spanOf(t, b)
			met, e := span.Meet(x, y)
			joined, f := span.Join(x, y)
			rest, g := span.Not(x)
			if e != api.OK || f != api.OK || g != api.OK {
				t.Fatalf("%q, %q: Meet %v, Join %v, Not %v", a, b, e, f, g)
			}
			for _, s := range versions() {
				v := read(t, s)
				first, _ := span.Has(x, v)
				second, _ := span.Has(y, v)
				hasIt(t, met, s, first && second)
				hasIt(t, joined, s, first || second)
				hasIt(t, rest, s, !first)
			}
		}
	}
}

// hasIt holds that Has of l and the version whose text s is answers want.
func hasIt(t *testing.T, l []api.Interval, s string, want bool) {
	t.Helper()
	if got, e := span.Has(l, read(t, s)); got != want || e != api.OK {
		t.Errorf("Has(%v, %s) = %t, %v, want %t", l, s, got, e, want)
	}
}

func TestP82HasExamples(t *testing.T) {
	hasIt(t, spanOf(t, "^1.0.0"), "2.0.0-a", false)
	hasIt(t, spanOf(t, "^1.0.0"), "1.9.9-a", true)
}

func TestP82Has(t *testing.T) {
	hasIt(t, nil, "1.0.0", false)
	hasIt(t, spanOf(t, "!"), "0.0.0-0", false)
	hasIt(t, spanOf(t, "*"), "0.0.0-0", true)
	hasIt(t, spanOf(t, "*"), "2147483647.2147483647.2147483647", true)
	hasIt(t, spanOf(t, "^1.0.0"), "1.0.0-rc", false)
	hasIt(t, spanOf(t, "^1.0.0"), "1.0.0", true)
	hasIt(t, spanOf(t, "^1.0.0"), "2.0.0-0", false)
	hasIt(t, spanOf(t, "<2.0.0"), "2.0.0-a", true)
	hasIt(t, spanOf(t, "^1.0.0-a"), "1.0.0-9", false)
	hasIt(t, spanOf(t, "^1.0.0-a"), "1.0.0-a", true)
	hasIt(t, spanOf(t, ">1.0.0 <2.0.0"), "1.0.0", false)
	hasIt(t, spanOf(t, ">1.0.0 <2.0.0"), "2.0.0", false)
	hasIt(t, spanOf(t, ">=1.0.0 <=2.0.0"), "1.0.0", true)
	hasIt(t, spanOf(t, ">=1.0.0 <=2.0.0"), "2.0.0", true)
	hasIt(t, spanOf(t, "=1.0.0 || =3.0.0"), "2.0.0", false)
	hasIt(t, spanOf(t, "=1.0.0 || =3.0.0"), "3.0.0", true)
	hasIt(t, spanOf(t, ">2147483647.2147483647.2147483647"), "2147483647.2147483647.2147483647", false)
}

// answered holds that a call answered the span whose text is want.
func answered(t *testing.T, l []api.Interval, e api.Errno, want string) {
	t.Helper()
	if text, f := span.Text(l); text != want || e != api.OK || f != api.OK {
		t.Errorf("answered %q, %v, want %q", text, e, want)
	}
}

func TestP82Sets(t *testing.T) {
	a, b := spanOf(t, ">=1.0.0 <2.0.0"), spanOf(t, ">=1.5.0 <=3.0.0")
	l, e := span.Meet(a, b)
	answered(t, l, e, ">=1.5.0 <2.0.0")
	l, e = span.Join(a, b)
	answered(t, l, e, ">=1.0.0 <=3.0.0")
	l, e = span.Not(a)
	answered(t, l, e, "<1.0.0 || >=2.0.0")
	l, e = span.Not(b)
	answered(t, l, e, "<1.5.0 || >3.0.0")
	l, e = span.Not(nil)
	answered(t, l, e, "*")
	l, e = span.Not(spanOf(t, "*"))
	answered(t, l, e, "!")
	l, e = span.Not(spanOf(t, ">0.0.0-0"))
	answered(t, l, e, "=0.0.0-0")
	l, e = span.Not(spanOf(t, "=0.0.0-0"))
	answered(t, l, e, ">0.0.0-0")
	l, e = span.Not(spanOf(t, "=1.0.0"))
	answered(t, l, e, "<1.0.0 || >1.0.0")
	l, e = span.Meet(nil, spanOf(t, "*"))
	answered(t, l, e, "!")
	l, e = span.Join(nil, []api.Interval{})
	answered(t, l, e, "!")
	l, e = span.Join(spanOf(t, "<1.0.0 || >1.0.0"), spanOf(t, "=1.0.0"))
	answered(t, l, e, "*")
	l, e = span.Meet(spanOf(t, "<=1.0.0"), spanOf(t, ">=1.0.0"))
	answered(t, l, e, "=1.0.0")
	l, e = span.Meet(spanOf(t, "<1.0.0"), spanOf(t, ">=1.0.0"))
	answered(t, l, e, "!")
}

// tooMany holds that a call told nothing, since it would be more than may be.
func tooMany(t *testing.T, call string, l []api.Interval, e api.Errno) {
	t.Helper()
	if len(l) != 0 || e != api.ErrSpan {
		t.Errorf("%s = %v, %v, want nothing, ErrSpan", call, l, e)
	}
}

// so holds that a call told as many intervals as it should.
func so(t *testing.T, call string, l []api.Interval, e api.Errno, n int) {
	t.Helper()
	if len(l) != n || e != api.OK || span.May(l) != api.OK {
		t.Errorf("%s = %v, %v, want %d intervals", call, l, e, n)
	}
}

func TestP82NotMany(t *testing.T) {
	for n := range 16 {
		l, e := span.Not(apart(1, n))
		so(t, "Not", l, e, n+1)
		l, e = span.Not(l)
		so(t, "Not of Not", l, e, n)
	}
	l, e := span.Not(apart(1, 16))
	tooMany(t, "Not of 16 intervals", l, e)
	least := apart(1, 16)
	least[0].Low.At.Major = 0
	least[0].Low.At.Pre = []string{"0"}
	l, e = span.Not(least)
	so(t, "Not of 16 intervals from the least version on", l, e, 16)
	endless := apart(1, 16)
	endless[15].Endless = true
	endless[15].High = api.Bound{}
	l, e = span.Not(endless)
	so(t, "Not of 16 intervals without an end", l, e, 16)
	least[15] = endless[15]
	l, e = span.Not(least)
	so(t, "Not of 16 intervals from end to end", l, e, 15)
	least[0].Low.Open = true
	l, e = span.Not(least)
	so(t, "Not of 16 intervals but the least version", l, e, 16)
	least[15] = apart(1, 16)[15]
	l, e = span.Not(least)
	tooMany(t, "Not of 16 intervals but both ends", l, e)
}

func TestP82JoinMany(t *testing.T) {
	for n := range 17 {
		for m := range 17 {
			l, e := span.Join(apart(1, n), apart(101, m))
			if n+m > 16 {
				tooMany(t, "Join", l, e)
			} else {
				so(t, "Join", l, e, n+m)
			}
			l, e = span.Join(apart(1, n), apart(1, m)) // of the one all is in the other
			so(t, "Join", l, e, max(n, m))
		}
	}
	l, e := span.Join(apart(1, 16), apart(2, 16)) // each of the one meets two of the other
	so(t, "Join", l, e, 1)
	l, e = span.Join(apart(1, 16), spanOf(t, "*"))
	so(t, "Join", l, e, 1)
	l, e = span.Join(apart(1, 16), spanOf(t, "=2.5.0"))
	tooMany(t, "Join of 16 intervals and one between them", l, e)
	l, e = span.Join(apart(1, 16), spanOf(t, ">2.0.0 <3.0.0"))
	so(t, "Join of 16 intervals and one that touches two", l, e, 15)
}

func TestP82MeetMany(t *testing.T) {
	l, e := span.Meet(apart(1, 16), apart(1, 16))
	so(t, "Meet", l, e, 16)
	l, e = span.Meet(apart(1, 16), apart(2, 16)) // one version each
	tooMany(t, "Meet of 31 versions", l, e)
	for n := range 17 {
		l, e = span.Meet(apart(1, n), apart(2, 16))
		if parts := max(0, 2*n-1); parts > 16 {
			tooMany(t, "Meet", l, e)
		} else {
			so(t, "Meet", l, e, parts)
		}
		l, e = span.Meet(apart(2, 16), apart(1, n))
		if parts := max(0, 2*n-1); parts > 16 {
			tooMany(t, "Meet", l, e)
		} else {
			so(t, "Meet", l, e, parts)
		}
	}
	l, e = span.Meet(apart(2, 8), apart(1, 16))
	so(t, "Meet of 16 versions", l, e, 16)
	l, e = span.Meet(apart(2, 8), append(apart(1, 8), list(t, "17.0.0", "17.0.0", "17.0.1", "17.0.1")...))
	so(t, "Meet of 16 versions", l, e, 16)
	l, e = span.Meet(apart(2, 9), apart(1, 9))
	tooMany(t, "Meet of 17 versions", l, e)
}
