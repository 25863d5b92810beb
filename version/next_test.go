package version_test

import (
	"math"
	"testing"

	"yankline/api"
	"yankline/version"
)

// next holds that Next of v's text is want's; of nothing, that it is ErrArg.
func next(t *testing.T, v string, part int, want string) {
	t.Helper()
	got, e := version.Next(read(t, v), part)
	if want == "" {
		if !nothing(got) || e != api.ErrArg {
			t.Errorf("Next(%s, %d) = %v, %v, want nothing, ErrArg", v, part, got, e)
		}
		return
	}
	if text, f := version.Text(got); text != want || e != api.OK || f != api.OK {
		t.Errorf("Next(%s, %d) = %s, %v, want %s", v, part, text, e, want)
	}
}

func TestP72Next(t *testing.T) {
	next(t, "1.2.3-a", 1, "1.3.0")
	next(t, "1.2.3", 3, "")
	next(t, "1.2.3", 0, "2.0.0")
	next(t, "1.2.3", 1, "1.3.0")
	next(t, "1.2.3", 2, "1.2.4")
	next(t, "1.2.3-rc.1", 0, "2.0.0")
	next(t, "1.2.3-rc.1", 2, "1.2.4")
	next(t, "0.0.0", 0, "1.0.0")
	next(t, "0.0.0", 1, "0.1.0")
	next(t, "0.0.0", 2, "0.0.1")
	next(t, "0.0.0-0", 2, "0.0.1")
	next(t, "9.9.9", 1, "9.10.0")
}

func TestP72NextNumbers(t *testing.T) {
	next(t, "2147483646.5.6", 0, "2147483647.0.0")
	next(t, "2147483647.5.6", 0, "")
	next(t, "2147483647.5.6", 1, "2147483647.6.0")
	next(t, "2147483647.5.6", 2, "2147483647.5.7")
	next(t, "4.2147483647.6", 0, "5.0.0")
	next(t, "4.2147483647.6", 1, "")
	next(t, "4.2147483647.6", 2, "4.2147483647.7")
	next(t, "4.5.2147483647", 0, "5.0.0")
	next(t, "4.5.2147483647", 1, "4.6.0")
	next(t, "4.5.2147483647", 2, "")
	next(t, "4.5.2147483647-a", 2, "")
	next(t, "4.5.2147483646-a", 2, "4.5.2147483647")
	for part := range 3 {
		next(t, "2147483647.2147483647.2147483647", part, "")
	}
}

func TestP72NextParts(t *testing.T) {
	for _, part := range []int{-1, -2, -3, 3, 4, 100, math.MaxInt32, math.MaxInt32 + 1, 1 << 32, 1<<32 + 1, math.MaxInt, math.MinInt, math.MinInt + 1, -(1 << 32)} {
		for _, v := range []string{"1.2.3", "1.2.3-a", "2147483647.2147483647.2147483647", "0.0.0"} {
			next(t, v, part, "")
		}
	}
}

// That the version may not be is named ahead of what is wrong with the part.
func TestP72NextNone(t *testing.T) {
	for _, v := range []api.Version{{Major: api.MaxNumber + 1}, {Minor: math.MaxUint32}, {Patch: 1 << 31}, {Pre: []string{"01"}}, {Pre: []string{""}}, {Major: api.MaxNumber, Pre: make([]string, 9)}} {
		for _, part := range []int{0, 1, 2, 3, -1, math.MaxInt, math.MinInt} {
			if got, e := version.Next(v, part); !nothing(got) || e != api.ErrVersion {
				t.Errorf("Next(%v, %d) = %v, %v, want nothing, ErrVersion", v, part, got, e)
			}
		}
	}
}

func TestP72Release(t *testing.T) {
	for s, want := range map[string]bool{"0.0.0": true, "1.2.3": true, "2147483647.2147483647.2147483647": true, "1.2.3-0": false, "1.2.3-a.b": false, "0.0.0-0": false, "0.0.0--": false} {
		if got := version.Release(read(t, s)); got != want {
			t.Errorf("Release(%s) = %t", s, got)
		}
	}
	for _, v := range []api.Version{{Major: api.MaxNumber + 1}, {Minor: math.MaxUint32}, {Patch: 1 << 31}, {Pre: []string{""}}, {Pre: make([]string, 9)}} {
		if version.Release(v) {
			t.Errorf("Release(%v) = true", v)
		}
	}
}

func TestP72Least(t *testing.T) {
	for s, want := range map[string]string{"1.2.3": "1.2.3-0", "1.2.3-a.b": "1.2.3-0", "1.2.3-0": "1.2.3-0", "0.0.0": "0.0.0-0", "1.0.0-1": "1.0.0-0", "0.0.0--": "0.0.0-0", "2147483647.2147483647.2147483647": "2147483647.2147483647.2147483647-0"} {
		least, e := version.Least(read(t, s))
		if text, f := version.Text(least); text != want || e != api.OK || f != api.OK {
			t.Errorf("Least(%s) = %s, %v, want %s", s, text, e, want)
		}
	}
}

func TestP73Least(t *testing.T) {
	for _, a := range texts() {
		v := read(t, a)
		least, e := version.Least(v)
		if e != api.OK || least.Major != v.Major || least.Minor != v.Minor || least.Patch != v.Patch {
			t.Errorf("Least(%s) = %v, %v", a, least, e)
		}
		met := false
		for _, b := range texts() {
			w := read(t, b)
			if w.Major != v.Major || w.Minor != v.Minor || w.Patch != v.Patch {
				continue
			}
			if c, e := version.Cmp(least, w); c > 0 || e != api.OK {
				t.Errorf("Least(%s) stands above %s", a, b)
			}
			met = true
		}
		if !met {
			t.Errorf("no version with the numbers of %s", a)
		}
	}
}

func TestP73Next(t *testing.T) {
	met := 0
	for _, a := range texts() {
		v := read(t, a)
		if !version.Release(v) || v.Patch == api.MaxNumber {
			continue
		}
		next, e := version.Next(v, 2)
		if c, f := version.Cmp(v, next); e != api.OK || f != api.OK || c != -1 || !version.Release(next) {
			t.Errorf("Next(%s, 2) = %v, %v", a, next, e)
		}
		for _, b := range append(texts(), "0.0.1-0", "0.0.1-a", "1.2.4-0", "1.2.4-z.z", "10.0.1--", "99.0.101-rc") {
			w := read(t, b)
			below, _ := version.Cmp(w, next)
			most, _ := version.Cmp(w, v)
			numbers := w.Major == next.Major && w.Minor == next.Minor && w.Patch == next.Patch
			if below < 0 && most > 0 && !numbers {
				t.Errorf("%s stands between %s and %v", b, a, next)
			}
			if below < 0 && most > 0 {
				met++
			}
		}
	}
	if met < 5 {
		t.Errorf("but %d versions below the next one's release", met)
	}
}
