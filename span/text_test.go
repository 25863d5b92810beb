package span_test

import (
	"strings"
	"testing"

	"yankline/api"
	"yankline/span"
)

// form holds that want is the one form of s.
func form(t *testing.T, s, want string) {
	t.Helper()
	if text, e := span.Form(s); text != want || e != api.OK {
		t.Errorf("Form(%q) = %q, %v, want %q", s, text, e, want)
	}
	if text, e := span.Text(spanOf(t, s)); text != want || e != api.OK {
		t.Errorf("Text of Read(%q) = %q, %v, want %q", s, text, e, want)
	}
	if got := span.Is(s); got != (s == want) {
		t.Errorf("Is(%q) = %t", s, got)
	}
	says(t, s)
}

func TestP81Examples(t *testing.T) {
	form(t, "^1.2.3", ">=1.2.3 <2.0.0-0")
	form(t, "~1.2.3", ">=1.2.3 <1.3.0-0")
	form(t, "^0.0.3", ">=0.0.3 <0.0.4-0")
	form(t, "^0.2.0", ">=0.2.0 <0.3.0-0")
	form(t, ">=1.0.0 <2.0.0 || =2.0.0", ">=1.0.0 <=2.0.0")
	form(t, "<=1.0.0 || >1.0.0", "*")
	form(t, ">2.0.0 <1.0.0", "!")
	form(t, "1.0.0", "=1.0.0")
	form(t, "=1.0.0", "=1.0.0")
	form(t, "^2147483647.0.0", ">=2147483647.0.0")
	refused(t, ">= 1.0.0")
	refused(t, "")
}

// Each sign, and what it leaves at the ends of all versions.
func TestP81Signs(t *testing.T) {
	form(t, "*", "*")
	form(t, "!", "!")
	form(t, "<1.0.0", "<1.0.0")
	form(t, "<=1.0.0", "<=1.0.0")
	form(t, ">1.0.0", ">1.0.0")
	form(t, ">=1.0.0", ">=1.0.0")
	form(t, "<0.0.0-0", "!")
	form(t, "<=0.0.0-0", "=0.0.0-0")
	form(t, "0.0.0-0", "=0.0.0-0")
	form(t, ">0.0.0-0", ">0.0.0-0")
	form(t, ">=0.0.0-0", "*")
	form(t, ">=0.0.0-0 <1.0.0", "<1.0.0")
	form(t, ">0.0.0-0 <=1.0.0", ">0.0.0-0 <=1.0.0")
	form(t, "<=2147483647.2147483647.2147483647", "<=2147483647.2147483647.2147483647")
	form(t, ">2147483647.2147483647.2147483647", ">2147483647.2147483647.2147483647")
	form(t, ">=2147483647.2147483647.2147483647 <=2147483647.2147483647.2147483647", "=2147483647.2147483647.2147483647")
}

func TestP81Tilde(t *testing.T) {
	form(t, "~1.2.3-rc.1", ">=1.2.3-rc.1 <1.3.0-0")
	form(t, "~0.0.0", ">=0.0.0 <0.1.0-0")
	form(t, "~0.0.0-0", "<0.1.0-0")
	form(t, "~9.9.2147483647", ">=9.9.2147483647 <9.10.0-0")
	form(t, "~1.2147483646.0", ">=1.2147483646.0 <1.2147483647.0-0")
	form(t, "~1.2147483647.0", ">=1.2147483647.0")
	form(t, "~2147483647.1.0", ">=2147483647.1.0 <2147483647.2.0-0")
}

func TestP81Caret(t *testing.T) {
	form(t, "^1.2.3-a", ">=1.2.3-a <2.0.0-0")
	form(t, "^1.0.0", ">=1.0.0 <2.0.0-0")
	form(t, "^0.1.2147483647", ">=0.1.2147483647 <0.2.0-0")
	form(t, "^0.0.0", ">=0.0.0 <0.0.1-0")
	form(t, "^0.0.0-0", "<0.0.1-0")
	form(t, "^0.0.0-a", ">=0.0.0-a <0.0.1-0")
	form(t, "^0.0.2147483647", ">=0.0.2147483647")
	form(t, "^0.2147483647.7", ">=0.2147483647.7")
	form(t, "^2147483646.5.6", ">=2147483646.5.6 <2147483647.0.0-0")
	form(t, "^1.2147483647.2147483647", ">=1.2147483647.2147483647 <2.0.0-0")
}

// Comparisons of an alternative mean what all of them mean.
func TestP81Comparisons(t *testing.T) {
	form(t, ">=1.0.0 <2.0.0", ">=1.0.0 <2.0.0")
	form(t, "<2.0.0 >=1.0.0", ">=1.0.0 <2.0.0")
	form(t, ">1.0.0 >=1.0.0 >0.9.0", ">1.0.0")
	form(t, "<1.0.0 <=1.0.0 <2.0.0", "<1.0.0")
	form(t, ">=1.0.0 <=1.0.0", "=1.0.0")
	form(t, "=1.0.0 1.0.0 =1.0.0", "=1.0.0")
	form(t, "=1.0.0 =1.0.1", "!")
	form(t, ">=1.0.0 <1.0.0", "!")
	form(t, ">1.0.0 <=1.0.0", "!")
	form(t, ">1.0.0 <1.0.0", "!")
	form(t, "^1.2.0 ~1.3.0", ">=1.3.0 <1.4.0-0")
	form(t, "^1.2.0 >1.5.0 <=1.6.0", ">1.5.0 <=1.6.0")
	form(t, "^1.2.0 ^2.2.0", "!")
	form(t, ">2.0.0 <1.0.0 >=0.1.0 <9.0.0", "!")
	form(t, ">=1.0.0 <1.0.1-0", ">=1.0.0 <1.0.1-0")
	form(t, ">1.0.0 <1.0.1-0", ">1.0.0 <1.0.1-0") // no version stands there, but it is not empty
}

// Alternatives mean what one of them means; what meets or touches is one interval.
func TestP81Alternatives(t *testing.T) {
	form(t, "=1.0.0 || =2.0.0", "=1.0.0 || =2.0.0")
	form(t, "2.0.0 || 1.0.0 || 2.0.0", "=1.0.0 || =2.0.0")
	form(t, "! || =1.0.0 || !", "=1.0.0")
	form(t, "! || !", "!")
	form(t, "* || =1.0.0", "*")
	form(t, "! || *", "*")
	form(t, "<1.0.0 || >=1.0.0", "*")
	form(t, "<1.0.0 || >1.0.0", "<1.0.0 || >1.0.0")
	form(t, "<1.0.0 || >1.0.0 || =1.0.0", "*")
	form(t, ">1.0.0 || <1.0.0", "<1.0.0 || >1.0.0")
	form(t, ">=1.0.0 <2.0.0 || >=2.0.0 <3.0.0", ">=1.0.0 <3.0.0")
	form(t, ">=1.0.0 <=2.0.0 || >2.0.0 <3.0.0", ">=1.0.0 <3.0.0")
	form(t, ">=1.0.0 <=2.0.0 || >=2.0.0 <3.0.0", ">=1.0.0 <3.0.0")
	form(t, ">=1.0.0 <2.0.0 || >2.0.0 <3.0.0", ">=1.0.0 <2.0.0 || >2.0.0 <3.0.0")
	form(t, ">1.0.0 <2.0.0 || =1.0.0", ">=1.0.0 <2.0.0")
	form(t, ">=1.0.0 <9.0.0 || >2.0.0 <3.0.0 || >3.5.0 <=4.0.0", ">=1.0.0 <9.0.0")
	form(t, ">2.0.0 <3.0.0 || >=1.0.0 <9.0.0", ">=1.0.0 <9.0.0")
	form(t, ">1.0.0 <3.0.0 || >=1.0.0 <2.0.0", ">=1.0.0 <3.0.0")
	form(t, "<1.0.0 || <=1.0.0 || <0.5.0", "<=1.0.0")
	form(t, ">1.0.0 || >=1.0.0 || >5.0.0", ">=1.0.0")
	form(t, "=0.0.1 || =0.0.2-0", "=0.0.1 || =0.0.2-0") // no version between them, but they do not touch
	form(t, "^1.0.0 || ^2.0.0-0", ">=1.0.0 <3.0.0-0")
	form(t, "^1.0.0 || ^2.0.0", ">=1.0.0 <2.0.0-0 || >=2.0.0 <3.0.0-0")
	form(t, ">2.0.0 <1.0.0 || 1.0.0", "=1.0.0")
	form(t, "=1.0.0-10 || =1.0.0-a || =1.0.0-9", "=1.0.0-9 || =1.0.0-10 || =1.0.0-a")
}

// nones are texts of no spans, each by something of its own.
func nones() []string {
	return []string{
		"", " ", "  ", "||", " || ", " ||", "|| ", "|", "a", "x", "**", "!!", "* *", "! !", "* !", "!*", "*!", "!1.0.0", "*1.0.0", "=*", ">!", "* 1.0.0", "1.0.0 *", "1.0.0 !", "! 1.0.0", ">=1.0.0 *",
		" 1.0.0", "1.0.0 ", "1.0.0  2.0.0", " *", "* ", " !", "! ", "\t*", "*\n", "1.0.0\t2.0.0", "1.0.0\n", "1.0.0\x00", "\x001.0.0", "\xff", "1.0.0\u00a02.0.0", "\u22651.0.0", "\uff1d1.0.0",
		"= 1.0.0", "> 1.0.0", ">= 1.0.0", "< 1.0.0", "<= 1.0.0", "~ 1.0.0", "^ 1.0.0", "=", ">", ">=", "<", "<=", "~", "^", "1.0.0 =", "1.0.0 <", "= =",
		"==1.0.0", "=>1.0.0", "=<1.0.0", "<>1.0.0", "><1.0.0", ">>1.0.0", "<<1.0.0", ">==1.0.0", "<==1.0.0", "!=1.0.0", "~~1.0.0", "^^1.0.0", "^~1.0.0", "~^1.0.0", "~>1.0.0", "^=1.0.0", "=^1.0.0", "~=1.0.0", ">^1.0.0", "<~1.0.0",
		"1.0.0=", "1.0.0>", "1.0.0^", "1.0.0>2.0.0", "=1.0.0=", ">=1.0.0<2.0.0", "1.0.0,2.0.0", ">=1.0.0, <2.0.0", "1.0.0 - 2.0.0", "1.0.0 and 2.0.0", "(1.0.0)", "v1.0.0", "=v1.0.0",
		"1", "1.2", "^1", "~1.2", "1.x", "1.2.x", "1.*", "1.2.*", "x.x.x", "01.0.0", "=1.0.0-01", ">=1.0.0-", "<1.0.0-A", "1.0.0+b", "1.0.0.0", ">=-1.0.0", "2147483648.0.0", "^2147483648.0.0", "<4294967297.0.0", "=1.0.0-aaaaaaaaaaaaaaaaa", "=1.0.0-a.b.c.d.e.f.g.h.i",
		"1.0.0|2.0.0", "1.0.0||2.0.0", "1.0.0 ||2.0.0", "1.0.0|| 2.0.0", "1.0.0 | 2.0.0", "1.0.0 ||| 2.0.0", "1.0.0  || 2.0.0", "1.0.0 ||  2.0.0", "1.0.0 ||", "|| 1.0.0", "1.0.0 || ", " || 1.0.0", "1.0.0 || || 2.0.0", "1.0.0 ||  || 2.0.0", "1.0.0 || x", "x || 1.0.0", "* || x", "! || 1.0", "* || ", " || *", "1.0.0 OR 2.0.0",
		strings.Repeat("*", 1<<20), strings.Repeat(" ", 1<<20), strings.Repeat("=", 1<<20), strings.Repeat(" || ", 1<<18), strings.Repeat("1.0.0 ", 1<<18), "=" + strings.Repeat("1", 1<<20) + ".0.0", strings.Repeat("* || ", 1<<18) + "*",
	}
}

func TestP81None(t *testing.T) {
	for _, s := range nones() {
		refused(t, s)
	}
}

// times is n times s, with something between each two.
func times(n int, s, between string) string {
	return strings.TrimSuffix(strings.Repeat(s+between, n), between)
}

func TestP81Parts(t *testing.T) {
	for n := 1; n <= 20; n++ {
		for _, s := range []string{times(n, "*", " || "), times(n, "!", " || "), times(n, "1.0.0", " "), "* || " + times(n, "1.0.0", " "), times(n, "1.0.0", " ") + " || !"} {
			says(t, s)
		}
	}
	form(t, times(16, "!", " || "), "!")
	form(t, times(15, "!", " || ")+" || =1.0.0", "=1.0.0")
	form(t, times(16, "1.0.0", " "), "=1.0.0")
	form(t, times(15, "<9.0.0", " ")+" <8.0.0", "<8.0.0")
	refused(t, times(17, "!", " || "))
	refused(t, times(16, "!", " || ")+" || *")
	refused(t, times(17, "1.0.0", " "))
	refused(t, times(17, "<1.0.0", " "))
	refused(t, "* || "+times(17, "1.0.0", " "))
}

// long is a version's text of n bytes, unless a dot is the last of them.
func long(n int) string {
	return ("3.0.0-" + strings.Repeat("abcdefghij-01234.", 8))[:n]
}

// A text of MaxText bytes is read; what it says may have a longer one.
func TestP81Long(t *testing.T) {
	const ahead = "=1.0.0 || >=2.0.0 <2.5.0 || >" // 29 bytes
	form(t, ahead+long(99), ahead+long(99))
	form(t, "="+long(127), "="+long(127))
	form(t, long(127), "="+long(127))
	form(t, ">="+long(126), ">="+long(126))
	form(t, "^"+long(117), ">="+long(117)+" <4.0.0-0")
	refused(t, ahead+long(100))
	refused(t, "="+long(128))
	refused(t, ">="+long(127))
	refused(t, long(129))
	for _, s := range []string{long(128), "^" + long(118), "~" + long(127), "^1.0.0 || ^3.0.0 || ^5.0.0 || ^7.0.0 || ^9.0.0 || ^11.0.0 || ^13.0.0 || ^15.0.0"} {
		l := spanOf(t, s)
		says(t, s)
		if text, e := span.Form(s); text != "" || e != api.ErrSpan {
			t.Errorf("Form(%q) = %q, %v, want nothing, ErrSpan", s, text, e)
		}
		if text, e := span.Text(l); text != "" || e != api.ErrSpan || span.May(l) != api.OK {
			t.Errorf("Text of Read(%q) = %q, %v, want nothing, ErrSpan", s, text, e)
		}
	}
	for n := range 30 {
		for _, s := range []string{"", "=", ">=", "^", "~", "<1.0.0 || "} {
			says(t, s+long(105+n))
		}
		says(t, ahead+long(85+n))
		says(t, "1.0.0 || 2.0.0 || "+long(95+n))
	}
}

// All texts of up to four of the tokens in which something changes.
func TestP81ShortTexts(t *testing.T) {
	tokens := []string{" ", "||", " || ", "*", "!", "=", "<", ">", "~", "^", "0.0.1", "0.0.2-0"}
	l := []string{""}
	for from, n := 0, 0; n < 4; n++ {
		to := len(l)
		for _, s := range l[from:to] {
			for _, token := range tokens {
				l = append(l, s+token)
			}
		}
		from = to
	}
	for _, s := range l {
		says(t, s)
	}
}

// Each byte there can be at each place of some texts, and behind them.
func TestP81EveryByte(t *testing.T) {
	for _, s := range []string{"^1.2.3", ">=1.0.0 <2.0.0", "* || =1.0.0-a", "!", "1.0.0"} {
		for c := range 256 {
			for at := range len(s) {
				b := []byte(s)
				b[at] = byte(c)
				says(t, string(b))
			}
			says(t, s+string([]byte{byte(c)}))
			says(t, string([]byte{byte(c)})+s)
		}
	}
}

// comparisons are all signs ahead of some versions.
func comparisons(versions ...string) []string {
	l := []string{}
	for _, sign := range []string{"", "=", "<", "<=", ">", ">=", "~", "^"} {
		for _, v := range versions {
			l = append(l, sign+v)
		}
	}
	return l
}

// Each comparison alone; each two, as one alternative and as two; and each with each two.
func TestP81Model(t *testing.T) {
	for _, s := range comparisons(versions()...) {
		says(t, s)
		bounds, meant, _ := model(s)
		hasAs(t, spanOf(t, s), bounds, meant)
	}
	l := append(comparisons("0.0.0-0", "0.0.1", "0.0.2-0", "0.1.0", "1.0.0-a", "1.0.0", "2147483647.2147483647.2147483647"), "*", "!")
	for _, a := range l {
		for _, b := range l {
			says(t, a+" "+b)
			says(t, a+" || "+b)
		}
	}
	few := comparisons("0.0.1", "0.0.2", "0.1.0")
	for _, a := range few {
		for _, b := range few {
			for _, c := range few {
				says(t, a+" "+b+" || "+c)
				says(t, a+" || "+b+" || "+c)
			}
		}
	}
}

// Longer texts, put together by a rule that goes through many of them.
func TestP81ModelMany(t *testing.T) {
	l := comparisons("0.0.1", "0.0.2-0", "0.0.2", "0.0.3", "0.1.0", "1.0.0", "1.2.0", "2.0.0-0", "9.0.0")
	state := uint32(1)
	next := func(n int) int {
		state = state*1664525 + 1013904223
		return int(state>>16) % n
	}
	read := 0
	for range 20000 {
		s := l[next(len(l))]
		for range next(12) {
			between := " "
			if next(3) > 0 {
				between = " || "
			}
			s += between + l[next(len(l))]
		}
		says(t, s)
		if bounds, meant, ok := model(s); ok {
			hasAs(t, spanOf(t, s), bounds, meant)
			read++
		}
		if t.Failed() {
			return
		}
	}
	if read < 10000 {
		t.Errorf("but %d of the texts were read", read)
	}
}
