package version_test

import (
	"math/big"
	"slices"
	"strings"
	"testing"

	"yankline/api"
	"yankline/version"
)

// modelCmp is how a and b stand in order, as the chapter's words say it.
func modelCmp(a, b api.Version) int {
	for _, n := range [][2]uint32{{a.Major, b.Major}, {a.Minor, b.Minor}, {a.Patch, b.Patch}} {
		if n[0] < n[1] {
			return -1
		}
		if n[0] > n[1] {
			return 1
		}
	}
	if len(a.Pre) == 0 && len(b.Pre) == 0 {
		return 0
	}
	if len(a.Pre) == 0 {
		return 1
	}
	if len(b.Pre) == 0 {
		return -1
	}
	for i := 0; ; i++ {
		if i == len(a.Pre) && i == len(b.Pre) {
			return 0
		}
		if i == len(a.Pre) {
			return -1
		}
		if i == len(b.Pre) {
			return 1
		}
		if c := modelIdentifiers(a.Pre[i], b.Pre[i]); c != 0 {
			return c
		}
	}
}

func modelIdentifiers(a, b string) int {
	switch x, y := number.MatchString(a), number.MatchString(b); {
	case x && y:
		m, _ := new(big.Int).SetString(a, 10)
		n, _ := new(big.Int).SetString(b, 10)
		return m.Cmp(n)
	case x:
		return -1
	case y:
		return 1
	case a < b:
		return -1
	case a > b:
		return 1
	}
	return 0
}

// ordered holds that a and b stand so, whichever comes first.
func ordered(t *testing.T, a, b string, want int) {
	t.Helper()
	if c, e := version.Order(a, b); c != want || e != api.OK {
		t.Errorf("Order(%s, %s) = %d, %v, want %d", a, b, c, e, want)
	}
	if c, e := version.Order(b, a); c != -want || e != api.OK {
		t.Errorf("Order(%s, %s) = %d, %v, want %d", b, a, c, e, -want)
	}
	if c, e := version.Cmp(read(t, a), read(t, b)); c != want || e != api.OK {
		t.Errorf("Cmp(%s, %s) = %d, %v, want %d", a, b, c, e, want)
	}
	if c, e := version.Cmp(read(t, b), read(t, a)); c != -want || e != api.OK {
		t.Errorf("Cmp(%s, %s) = %d, %v, want %d", b, a, c, e, -want)
	}
}

func TestP71OrderExamples(t *testing.T) {
	ordered(t, "1.0.0-rc", "1.0.0", -1)
	ordered(t, "1.0.0-2", "1.0.0-10", -1)
	ordered(t, "1.0.0-10", "1.0.0-a", -1)
	ordered(t, "1.0.0-a", "1.0.0-a.0", -1)
}

// Each of them is below all behind it.
func TestP71OrderRising(t *testing.T) {
	l := []string{
		"0.0.0-0", "0.0.0-z", "0.0.0", "0.0.1-0", "0.0.1", "0.0.2", "0.0.10", "0.0.2147483647", "0.1.0-0", "0.1.0", "0.1.9", "0.2.0", "0.10.0", "0.2147483647.2147483647",
		"1.0.0-0", "1.0.0-0.0", "1.0.0-0.0.0", "1.0.0-0.1", "1.0.0-0.-", "1.0.0-1", "1.0.0-2", "1.0.0-2.z", "1.0.0-9", "1.0.0-10", "1.0.0-10.0", "1.0.0-4294967295", "1.0.0-4294967296", "1.0.0-999999999999999", "1.0.0-1000000000000000", "1.0.0-9999999999999999",
		"1.0.0--", "1.0.0--.0", "1.0.0--.a", "1.0.0---", "1.0.0--9", "1.0.0-0-", "1.0.0-00a", "1.0.0-0a", "1.0.0-10a", "1.0.0-9-", "1.0.0-9a", "1.0.0-a", "1.0.0-a.0", "1.0.0-a.0.0", "1.0.0-a.1", "1.0.0-a.10", "1.0.0-a.-", "1.0.0-a.a", "1.0.0-a-", "1.0.0-a-.0", "1.0.0-a0", "1.0.0-a10", "1.0.0-a9", "1.0.0-aa", "1.0.0-b", "1.0.0-rc.1", "1.0.0-rc.2", "1.0.0-rc.10", "1.0.0-rc1", "1.0.0-rc10", "1.0.0-rc2", "1.0.0",
		"1.0.1-a", "1.0.1", "1.2.0", "1.2.3-a", "1.2.3", "1.10.0", "2.0.0-0", "2.0.0", "9.9.9", "10.0.0-0", "10.0.0", "2147483647.0.0", "2147483647.2147483647.2147483647-0", "2147483647.2147483647.2147483647",
	}
	for i, a := range l {
		ordered(t, a, a, 0)
		for _, b := range l[i+1:] {
			ordered(t, a, b, -1)
		}
	}
}

func TestP71OrderModel(t *testing.T) {
	l := texts()
	for _, a := range l {
		for _, b := range l {
			x, _ := model(a)
			y, _ := model(b)
			ordered(t, a, b, modelCmp(x, y))
		}
	}
}

func TestP71OrderNone(t *testing.T) {
	for _, s := range nones() {
		for _, l := range [][2]string{{s, "1.0.0"}, {"1.0.0", s}, {s, s}, {s, "0.0.0-0"}, {s, ""}} {
			if c, e := version.Order(l[0], l[1]); c != 0 || e != api.ErrVersion {
				t.Errorf("Order(%.40q, %.40q) = %d, %v, want 0, ErrVersion", l[0], l[1], c, e)
			}
		}
	}
}

// An empty list of identifiers is the same as none.
func TestP71CmpEmpty(t *testing.T) {
	a, b := api.Version{Major: 1}, api.Version{Major: 1, Pre: []string{}}
	if c, e := version.Cmp(a, b); c != 0 || e != api.OK {
		t.Errorf("Cmp of two releases = %d, %v", c, e)
	}
	if c, e := version.Cmp(b, api.Version{Major: 1, Pre: []string{"z"}}); c != 1 || e != api.OK {
		t.Errorf("Cmp of a release and one ahead of it = %d, %v", c, e)
	}
	if text, e := version.Text(b); text != "1.0.0" || e != api.OK || !version.Release(b) {
		t.Errorf("Text of a release = %q, %v", text, e)
	}
}

func TestP71Sort(t *testing.T) {
	for _, c := range []struct{ l, want []string }{
		{nil, nil},
		{[]string{}, nil},
		{[]string{"1.0.0"}, []string{"1.0.0"}},
		{[]string{"1.0.0", "1.0.0-a", "1.0.0"}, []string{"1.0.0-a", "1.0.0"}},
		{[]string{"1.0.0", "1.0.0", "1.0.0"}, []string{"1.0.0"}},
		{[]string{"10.0.0", "9.0.0", "1.0.0-10", "1.0.0-9", "9.0.0"}, []string{"1.0.0-9", "1.0.0-10", "9.0.0", "10.0.0"}},
		{[]string{"1.0.0-a.b", "1.0.0", "1.0.0-a", "1.0.0-1", "0.9.9", "1.0.0-a.1"}, []string{"0.9.9", "1.0.0-1", "1.0.0-a", "1.0.0-a.1", "1.0.0-a.b", "1.0.0"}},
	} {
		if got, e := version.Sort(c.l...); !slices.Equal(got, c.want) || e != api.OK {
			t.Errorf("Sort(%q) = %q, %v, want %q", c.l, got, e, c.want)
		}
	}
}

func TestP71SortNone(t *testing.T) {
	for _, s := range nones() {
		for _, l := range [][]string{{s}, {s, s}, {s, "1.0.0", "0.1.0"}, {"1.0.0", s, "1.0.0"}, {"1.0.0", "0.1.0", s}} {
			if got, e := version.Sort(l...); len(got) != 0 || e != api.ErrVersion {
				t.Errorf("Sort(%.40q) = %.40q, %v, want none, ErrVersion", l, got, e)
			}
		}
	}
}

// The texts of many versions, each several times: the same ones, whatever order they come in.
func TestP71SortModel(t *testing.T) {
	var l, want []string
	for _, s := range append(texts(), shorts()...) {
		if _, ok := model(s); ok {
			l = append(l, s)
		}
	}
	for _, s := range l {
		v, _ := model(s)
		at, there := slices.BinarySearchFunc(want, v, func(s string, v api.Version) int {
			w, _ := model(s)
			return modelCmp(w, v)
		})
		if !there {
			want = slices.Insert(want, at, s)
		}
	}
	if len(want) < 100 {
		t.Errorf("but %d versions", len(want))
	}
	l = append(l, l[:len(l)/2]...)
	for range 4 {
		if got, e := version.Sort(l...); !slices.Equal(got, want) || e != api.OK {
			t.Errorf("Sort of %d texts: %d, %v, want %d", len(l), len(got), e, len(want))
		}
		slices.Reverse(l[:len(l)/3])
		slices.Reverse(l)
	}
}

func TestP73OrderOfAll(t *testing.T) {
	l := texts()
	var c [][]int
	for _, a := range l {
		var row []int
		for _, b := range l {
			one, e := version.Order(a, b)
			if e != api.OK || one < -1 || one > 1 || (one == 0) != (a == b) {
				t.Errorf("Order(%s, %s) = %d, %v", a, b, one, e)
			}
			row = append(row, one)
		}
		c = append(c, row)
	}
	for i := range l {
		for j := range l {
			if c[i][j] != -c[j][i] {
				t.Errorf("%s and %s stand in order one way", l[i], l[j])
			}
			for k := range l {
				if c[i][j] <= 0 && c[j][k] <= 0 && c[i][k] > 0 {
					t.Errorf("%s, %s, %s stand in a ring", l[i], l[j], l[k])
				}
			}
		}
	}
}

// Versions that may be but are too long for a text stand in order, too.
func TestP73OrderOfLong(t *testing.T) {
	var l []api.Version
	for _, last := range []string{"0", "1", "1000000000000000", "9999999999999999", "----------------", "a", "aaaaaaaaaaaaaaaa", "zzzzzzzzzzzzzzzz"} {
		for n := 1; n <= 8; n++ {
			pre := slices.Repeat([]string{"zzzzzzzzzzzzzzzz"}, n)
			pre[n-1] = last
			l = append(l, api.Version{Major: api.MaxNumber, Minor: api.MaxNumber, Patch: api.MaxNumber, Pre: pre})
		}
	}
	for _, a := range l {
		for _, b := range l {
			same := strings.Join(a.Pre, ".") == strings.Join(b.Pre, ".")
			if c, e := version.Cmp(a, b); c != modelCmp(a, b) || e != api.OK || (c == 0) != same {
				t.Errorf("Cmp(%q, %q) = %d, %v", a.Pre, b.Pre, c, e)
			}
		}
	}
}

func TestP73ThereAndBack(t *testing.T) {
	for _, s := range texts() {
		v := read(t, s)
		text, e := version.Text(v)
		if text != s || e != api.OK {
			t.Errorf("Text of Read(%q) = %q, %v", s, text, e)
		}
		if again := read(t, text); !same(again, v) {
			t.Errorf("Read of Text of %v = %v", v, again)
		}
	}
}
