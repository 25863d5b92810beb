package page_test

import (
	"errors"
	"fmt"
	"math/rand/v2"
	"strconv"
	"strings"
	"testing"

	"yankline/api"
	"yankline/page"
)

// foo is the text of the chapter's page.
const foo = "page foo 2\nholders alice\nrelease 1.0.0 alice 2 0000000000000000 1 0 - -\n"

func TestP162Examples(t *testing.T) {
	p, n, err := page.Read(foo)
	if err != nil || n != 3 || !same(p, api.Page{Name: "foo", At: 2, Holders: []string{"alice"}, Releases: []api.Release{{Version: "1.0.0", By: "alice", At: 2, N: 1}}}) {
		t.Errorf("Read(%q) = %s, %d, %v", foo, told(p), n, err)
	}
	for s, line := range map[string]int{"": 1, "page foo 2": 1, "page foo 2\nholders alice\n": 3} {
		p, n, err := page.Read(s)
		wrong(t, s, p, n, err, line)
	}
}

// What is wrong, line by line: no such line, one that stands where it may not, one without an end, one by which there is no such page, one that is wanting.
func TestP162Lines(t *testing.T) {
	const (
		head    = "page foo 9\n"
		two     = head + "holders a bob\n"
		release = "release 1.9.0 a 2 00000000000000ff 1 65536 yanked 6f6b\n"
		three   = two + release
		need    = three + "need c *\n"
	)
	for line, l := range map[int][]string{
		1: {
			"", "\n", " ", "\x00", "page", "page\n", "page \n", "page foo\n", "page foo \n", "page  9\n", "page foo 0\n", "page foo -1\n", "page foo 09\n", "page foo +9\n", "page foo 9 \n", "page foo  9\n", " page foo 9\n", "page foo 9\r\n", "page foo 9 9\n", "page\tfoo\t9\n",
			"page foo 9223372036854775808\n", "page foo 18446744073709551617\n", "page foo 9_0\n", "page foo 0x9\n", "page foo 9.0\n", "page foo x\n", "page foo " + strings.Repeat("9", 1<<20) + "\n", "page Foo 9\n", "page foo_bar 9\n", "page foo- 9\n", "page \xff 9\n", "page " + strings.Repeat("a", 65) + " 9\n", "Page foo 9\n", "pages foo 9\n",
			"holders\n", "holders foo 9\n", "release foo 9\n", "need foo 9\n", release, "\n" + three, " " + three, "\xef\xbb\xbf" + three, "page foo 9",
		},
		2: {
			head, head + "\n", head + " \n", head + "page foo 9\n", head + "holders", head + "holders a", head + "holders \n", head + "holders a \n", head + "holders  a\n", head + " holders a\n", head + "holders a  b\n", head + "holders a b a\n", head + "holders a a\n", head + "holders b a\n", head + "holders A\n", head + "holders 2a\n",
			head + "holders a-b\n", head + "holders a,b\n", head + "holders\ta\n", head + "holders a\r\n", head + "holder a\n", head + "Holders a\n", head + "holders " + strings.Repeat("a", 65) + "\n", head + release, head + "need c *\n", head + strings.Repeat("x", 1<<20) + "\n", head + "holders" + strings.Repeat(" a", 1<<20) + "\n", head + "page a bob\n", head + "release a bob\n",
		},
		3: {
			two, two + "\n", two + " ", two + "page foo 9\n", two + "holders a bob\n", two + "need c *\n", two + "release\n", two + "release 1.9.0 a 2 00000000000000ff 1 65536 yanked 6f6b", two + "releases 1.9.0 a 2 00000000000000ff 1 65536 yanked 6f6b\n", two + "Release 1.9.0 a 2 00000000000000ff 1 65536 yanked 6f6b\n",
			two + "release 1.9 a 2 00000000000000ff 1 65536 yanked 6f6b\n", two + "release  a 2 00000000000000ff 1 65536 yanked 6f6b\n", two + "release 1.9.0 A 2 00000000000000ff 1 65536 yanked 6f6b\n", two + "release 1.9.0  2 00000000000000ff 1 65536 yanked 6f6b\n",
			two + "release 1.9.0 a 0 00000000000000ff 1 65536 yanked 6f6b\n", two + "release 1.9.0 a -2 00000000000000ff 1 65536 yanked 6f6b\n", two + "release 1.9.0 a 02 00000000000000ff 1 65536 yanked 6f6b\n", two + "release 1.9.0 a +2 00000000000000ff 1 65536 yanked 6f6b\n", two + "release 1.9.0 a 10 00000000000000ff 1 65536 yanked 6f6b\n", two + "release 1.9.0 a 18446744073709551618 00000000000000ff 1 65536 yanked 6f6b\n", two + "release 1.9.0 a  00000000000000ff 1 65536 yanked 6f6b\n", two + "release 1.9.0 a x 00000000000000ff 1 65536 yanked 6f6b\n",
			two + "release 1.9.0 a 2 ff 1 65536 yanked 6f6b\n", two + "release 1.9.0 a 2 00000000000000FF 1 65536 yanked 6f6b\n", two + "release 1.9.0 a 2 000000000000000ff 1 65536 yanked 6f6b\n", two + "release 1.9.0 a 2 0x000000000000ff 1 65536 yanked 6f6b\n", two + "release 1.9.0 a 2 - 1 65536 yanked 6f6b\n", two + "release 1.9.0 a 2 000000000000000g 1 65536 yanked 6f6b\n",
			two + "release 1.9.0 a 2 00000000000000ff 0 65536 yanked 6f6b\n", two + "release 1.9.0 a 2 00000000000000ff 01 65536 yanked 6f6b\n", two + "release 1.9.0 a 2 00000000000000ff 4294967296 65536 yanked 6f6b\n", two + "release 1.9.0 a 2 00000000000000ff 4294967297 65536 yanked 6f6b\n", two + "release 1.9.0 a 2 00000000000000ff -1 65536 yanked 6f6b\n", two + "release 1.9.0 a 2 00000000000000ff x 65536 yanked 6f6b\n",
			two + "release 1.9.0 a 2 00000000000000ff 1 65537 yanked 6f6b\n", two + "release 1.9.0 a 2 00000000000000ff 1 -0 yanked 6f6b\n", two + "release 1.9.0 a 2 00000000000000ff 1 00 yanked 6f6b\n", two + "release 1.9.0 a 2 00000000000000ff 1 4294967296 yanked 6f6b\n", two + "release 1.9.0 a 2 00000000000000ff 1 x yanked 6f6b\n", two + "release 1.9.0 a 2 00000000000000ff 1  yanked 6f6b\n",
			two + "release 1.9.0 a 2 00000000000000ff 1 65536 Yanked 6f6b\n", two + "release 1.9.0 a 2 00000000000000ff 1 65536  6f6b\n", two + "release 1.9.0 a 2 00000000000000ff 1 65536 open 6f6b\n", two + "release 1.9.0 a 2 00000000000000ff 1 65536 -- 6f6b\n", two + "release 1.9.0 a 2 00000000000000ff 1 65536 true 6f6b\n",
			two + "release 1.9.0 a 2 00000000000000ff 1 65536 yanked\n", two + "release 1.9.0 a 2 00000000000000ff 1 65536 yanked \n", two + "release 1.9.0 a 2 00000000000000ff 1 65536 yanked 6\n", two + "release 1.9.0 a 2 00000000000000ff 1 65536 yanked 6f6\n", two + "release 1.9.0 a 2 00000000000000ff 1 65536 yanked 6F\n", two + "release 1.9.0 a 2 00000000000000ff 1 65536 yanked ok\n", two + "release 1.9.0 a 2 00000000000000ff 1 65536 yanked --\n", two + "release 1.9.0 a 2 00000000000000ff 1 65536 yanked 6f6b \n", two + "release 1.9.0 a 2 00000000000000ff 1 65536 yanked 6f6b x\n", two + "release 1.9.0 a 2 00000000000000ff 1 65536 yanked 6f6b -\n", two + "release 1.9.0 a 2 00000000000000ff 1 65536 yanked 6f6b\r\n",
			two + "release 1.9.0 a 2 00000000000000ff 1 65536 yanked " + strings.Repeat("00", 257) + "\n", two + "release 1.9.0 a 2 00000000000000ff 1 65536 yanked " + strings.Repeat("0", 1<<20) + "\n", two + " " + release, two + "\t" + release, two + strings.Replace(release, " ", "\t", 1), two + strings.Replace(release, " ", "  ", 1),
		},
		4: {
			three + "\n", three + " ", three + "\n" + release, three + "page foo 9\n", three + "holders\n", three + "holders a bob\n", three + "x\n", three + release, three + strings.Replace(release, "a 2", "a 3", 1), three + strings.Replace(release, "1.9.0", "1.10.0", 1), three + "release 1.8.0 a 3 00000000000000ff 1 1 - -\n", three + "release 1.9.0-a a 3 00000000000000ff 1 1 - -\n", three + "release 1.10.0 a 10 00000000000000ff 1 1 - -\n",
			three + "release 1.10.0 a 3 00000000000000ff 1 1 - -", three + "need c *", three + "need\n", three + "need c\n", three + "need c \n", three + "need  *\n", three + "need c * \n", three + "need c *  \n", three + "need c * *\n", three + "need C *\n", three + "need c_d *\n", three + "need c >=1.0.0 <2.0.0\n", three + "need c >=1.0.0__<2.0.0\n", three + "need c _*\n", three + "need c ^1.0.0\n", three + "need c 1.0.0\n", three + "need c _\n", three + "need c *\r\n", three + "Need c *\n", three + "needs c *\n", three + " need c *\n",
			three + "need " + strings.Repeat("c", 65) + " *\n", three + "need c " + longSpan() + "9\n", three + "need c " + strings.Repeat("_", 1<<20) + "\n", three + "need c" + strings.Repeat(" c", 1<<20) + "\n", three + "\x00", three + "\xff\n",
		},
		5: {
			need + "need c *\n", need + "need c !\n", need + "need b *\n", need + "need c d", need + "\n", need + "release 1.9.0 a 3 00000000000000ff 1 65536 - -\n", need + "release 1.9.1 a 2 00000000000000ff 1 65536 - -\n", need + "page foo 9\n", need + "holders a\n", need + "need d", need + three,
		},
	} {
		for _, s := range l {
			if _, n, is := modelRead(s); is || n != line {
				t.Errorf("the model tells %d of %.300q, want %d", n, s, line)
			}
			p, n, err := page.Read(s)
			wrong(t, s, p, n, err, line)
			if strings.Count(s, "\n") >= line { // what stands behind the line is not looked at
				s += "release 1.10.0 a 3 00000000000000ff 1 1 - -\n\nx"
				p, n, err := page.Read(s)
				wrong(t, s, p, n, err, line)
			}
		}
	}
	for _, s := range []string{foo, three, need, need + "need d !\n", need + "need d =1.0.0_||_>2.0.0\nrelease 1.10.0 bob 3 00000000000000ff 1 1 - -\nneed a *\n", three + "release 1.10.0 a 1 00000000000000ff 4294967295 0 - 00\n", strings.Replace(three, "holders a bob", "holders", 1), strings.Replace(three, "foo 9", "foo 9223372036854775807", 1)} {
		read(t, s)
		if _, n, err := page.Read(s); err != nil || n != strings.Count(s, "\n") {
			t.Errorf("Read(%q): %d, %v", s, n, err)
		}
	}
}

// Each byte at each place of pages' texts is taken for what it is; so is what is cut off, left out, put in.
func TestP162Bytes(t *testing.T) {
	for _, p := range []api.Page{full(), ones()[1], ones()[5]} {
		s := textOf(p)
		read(t, s)
		for at := range len(s) {
			read(t, s[:at])
			read(t, s[at:])
			read(t, s[:at]+s[at+1:])
			for _, c := range " _-0a\n\x00" {
				read(t, s[:at]+string(c)+s[at:])
			}
			for c := range 256 {
				read(t, s[:at]+string([]byte{byte(c)})+s[at+1:])
			}
		}
	}
}

// Lines of pages' texts left out, doubled, changed for one another, and words likewise.
func TestP162Moved(t *testing.T) {
	s := textOf(full())
	l := strings.SplitAfter(strings.TrimSuffix(s, "\n"), "\n")
	l[len(l)-1] += "\n"
	put := func(l ...string) { read(t, strings.Join(l, "")) }
	for i := range l {
		put(append(append([]string{}, l[:i]...), l[i+1:]...)...)
		for j := range l {
			put(append(append(append([]string{}, l[:j]...), l[i]), l[j:]...)...)
			swapped := append([]string{}, l...)
			swapped[i], swapped[j] = l[j], l[i]
			put(swapped...)
			put(append(append([]string{}, l[:i]...), l[j:]...)...)
		}
	}
	words := strings.Split(s, " ")
	for i := range words {
		for j := range words {
			one := append([]string{}, words...)
			one[i] = words[j]
			read(t, strings.Join(one, " "))
		}
	}
}

// Texts that are put together of lines, the same ones always.
func TestP162Mixed(t *testing.T) {
	r := rand.New(rand.NewPCG(16, 3))
	some := func(l ...string) string { return l[r.IntN(len(l))] }
	taken, lines := 0, map[int]int{}
	for range 30000 {
		s := "page " + some("foo", "a") + " " + strconv.Itoa(r.IntN(8)) + "\nholders" + some("", " a", " a b", " b", " b a") + "\n"
		for at := 0; r.IntN(4) > 0; at++ {
			if at > 0 && r.IntN(2) > 0 {
				s += "need " + some("a", "b", "c", "foo") + " " + some("*", "!", "=1.0.0", "=1.0.0_||_>2.0.0", "*") + "\n"
				continue
			}
			minor := at
			if r.IntN(6) == 0 {
				minor = r.IntN(4)
			}
			s += fmt.Sprintf("release 1.%d.0 %s %d %016x %d %d %s %s\n", minor, some("a", "b"), r.IntN(8), r.Uint64()>>r.IntN(64), 1+r.IntN(3), r.IntN(65537), some("yanked", "-"), some("-", "-", "00", "6f6b"))
		}
		if r.IntN(9) == 0 {
			s = strings.TrimSuffix(s, "\n") + some("", "\n\n", " \n", "\r\n")
		}
		read(t, s)
		_, n, is := modelRead(s)
		lines[n]++
		if is {
			taken++
		}
	}
	if taken < 1000 || lines[1] < 1000 || lines[2] < 1000 || lines[3] < 1000 || lines[4] < 1000 || lines[6] < 100 {
		t.Errorf("but %d texts are pages'; by lines: %v", taken, lines)
	}
}

// needLines are the lines of n needs.
func needLines(n int) string {
	text := ""
	for _, one := range needs(n) {
		text += "need " + one.Name + " *\n"
	}
	return text
}

// The 64th need may stand there, the 65th may not; of the next release they count anew.
func TestP162Needs(t *testing.T) {
	two := strings.Replace(foo, "alice 2", "alice 1", 1) + needLines(64) + "release 1.0.1 alice 2 0000000000000000 1 0 - -\n"
	for _, n := range []int{0, 1, 63, 64, 65, 66, 128} {
		for _, ahead := range []string{foo, two} {
			s := ahead + needLines(n)
			line := strings.Count(ahead, "\n") + min(n, 65)
			p, got, err := page.Read(s)
			if n > 64 {
				wrong(t, s, p, got, err, line)
			} else if err != nil || got != line || len(p.Releases[len(p.Releases)-1].Needs) != n {
				t.Errorf("Read of %d needs = %.300s, %d, %v", n, told(p), got, err)
			}
		}
	}
}

// long is the text of a page, of so many bytes.
func long(n int) string {
	const last = "release 1.0.0 alice 2 0000000000000000 1 0 - -\n"
	var b strings.Builder
	b.WriteString("page foo 2\nholders")
	left := n - b.Len() - len(last) - 1
	for i := 0; left > 0; i++ {
		holder := fmt.Sprintf(" a%07d", i)
		if left < 2*len(holder)+1 { // the last one has what is left
			holder += strings.Repeat("a", left-len(holder))
		}
		b.WriteString(holder)
		left -= len(holder)
	}
	b.WriteString("\n" + last)
	return b.String()
}

// A text of MaxFile bytes is read, one of a byte more is not, whatever it has.
func TestP162Long(t *testing.T) {
	s := long(api.MaxFile)
	p, n, err := page.Read(s)
	if len(s) != api.MaxFile || err != nil || n != 3 || len(p.Holders) < 1<<20 {
		t.Errorf("Read of %d bytes = %d, %v", len(s), n, err)
	}
	if text, no := page.Text(p); text != s || no != api.OK {
		t.Errorf("Text of what has %d bytes has %d, %v", len(s), len(text), no)
	}
	for _, s := range []string{long(api.MaxFile + 1), s + "\n", strings.Repeat("\n", api.MaxFile+1), strings.Repeat("x", 3*api.MaxFile)} {
		p, n, err := page.Read(s)
		faulty(t, "Read of too many bytes", err, api.ErrLong, "", -1)
		if n != 0 || !same(p, api.Page{}) || errors.Is(err, api.ErrPage) {
			t.Errorf("Read of %d bytes = %.300s, %d", len(s), told(p), n)
		}
	}
	for _, s := range []string{strings.Repeat("\n", api.MaxFile), strings.Repeat("x", api.MaxFile)} {
		p, n, err := page.Read(s)
		wrong(t, s, p, n, err, 1)
	}
	p, n, err = page.Read(s[:api.MaxFile-1])
	wrong(t, "what is cut off", p, n, err, 3)
}
