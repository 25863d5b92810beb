package span_test

import (
	"slices"
	"testing"

	"yankline/api"
	"yankline/span"
)

func TestP83Examples(t *testing.T) {
	picked(t, "1.2.0", "^1.0.0", "1.1.0", "2.0.0", "1.2.0")
	picked(t, "", "!", "1.0.0")
}

// picked holds that Pick answers want; nothing, that there is none.
func picked(t *testing.T, want, s string, versions ...string) {
	t.Helper()
	if got, ok, e := span.Pick(s, versions...); got != want || ok != (want != "") || e != api.OK {
		t.Errorf("Pick(%q, %q) = %q, %t, %v, want %q", s, versions, got, ok, e, want)
	}
}

func TestP83Pick(t *testing.T) {
	picked(t, "", "*")
	picked(t, "1.0.0", "*", "1.0.0")
	picked(t, "1.0.0", "*", "1.0.0", "1.0.0", "1.0.0")
	picked(t, "1.0.0", "*", "1.0.0", "1.0.0-a", "1.0.0-10")
	picked(t, "1.0.0-a", "<1.0.0", "1.0.0", "1.0.0-a", "1.0.0-10")
	picked(t, "1.0.0-10", "*", "1.0.0-9", "1.0.0-10", "1.0.0-1")
	picked(t, "1.10.0", "^1.0.0", "1.9.0", "1.10.0", "1.2.0", "2.0.0-0")
	picked(t, "1.0.0", "=1.0.0 || =0.9.0", "0.9.0", "1.0.0", "0.9.0")
	picked(t, "0.9.0", "=1.0.0 || =0.9.0", "0.9.0", "1.0.1", "0.8.0")
	picked(t, "", "^1.0.0", "1.0.0-rc", "2.0.0-0", "2.0.0", "0.9.9")
	picked(t, "2.0.0", "^1.0.0 || ^3.0.0 || 2.0.0", "1.0.0", "2.0.0", "1.9.9", "2.0.1")
	picked(t, "", ">2.0.0 <1.0.0", "1.0.0", "1.5.0", "2.0.0")
	picked(t, "0.0.0-0", "<=0.0.0-0", versions()...)
	picked(t, "2147483647.2147483647.2147483647", "*", versions()...)
	picked(t, "1.9.9", "^1.0.0 || ^3.0.0 || ^5.0.0 || ^7.0.0 || ^9.10.0 || ^11.0.0 || ^13.0.0 || ^15.0.0", "1.9.9", "2.0.0") // whose form has a text that is too long
	picked(t, long(127), "^3.0.0-0", long(126), long(127), long(124))
	picked(t, "1.0.0-b", long(117)+" || 1.0.0-b", "1.0.0-b", "1.0.0-a")
}

// Pick answers the greatest of those that the model's set has, in whatever order they are handed in.
func TestP83Model(t *testing.T) {
	rising := versions()
	falling := slices.Clone(rising)
	slices.Reverse(falling)
	var mixed []string
	for i := range rising {
		mixed = append(mixed, rising[i*7%len(rising)])
	}
	for _, s := range append(comparisons(versions()...), ">=1.0.0 <2.0.0 || <0.2.0", "~1.2.0 || =2.0.0-a", "*", "!") {
		bounds, meant, ok := model(s)
		want := ""
		for _, v := range rising {
			if ok && meant[atom(t, bounds, v)] {
				want = v
			}
		}
		picked(t, want, s, rising...)
		picked(t, want, s, falling...)
		picked(t, want, s, append(mixed, mixed...)...)
	}
}

func TestP83None(t *testing.T) {
	for _, s := range []string{"", "1", "1.2", "01.0.0", "=1.0.0", "^1.0.0", "*", "!", " 1.0.0", "1.0.0 ", "1.0.0 2.0.0", "1.0.0-A", "2147483648.0.0", long(129)} {
		for _, text := range []string{"*", "!", "^1.0.0", "=3.0.0"} {
			for _, l := range [][]string{{s}, {s, "1.0.0"}, {"1.0.0", s}, {"3.0.0", s, "1.0.0"}} {
				if got, ok, e := span.Pick(text, l...); got != "" || ok || e != api.ErrVersion {
					t.Errorf("Pick(%q, %.80q) = %q, %t, %v, want nothing, ErrVersion", text, l, got, ok, e)
				}
			}
		}
		for _, text := range []string{"", "x", ">= 1.0.0", "1.0.0 || "} { // that it is no span is named first
			if got, ok, e := span.Pick(text, s); got != "" || ok || e != api.ErrSpan {
				t.Errorf("Pick(%q, %.80q) = %q, %t, %v, want nothing, ErrSpan", text, s, got, ok, e)
			}
		}
	}
}
