package span

import (
	"iter"
	"strings"

	"yankline/api"
	"yankline/version"
)

// What stands in a span's text: between its alternatives, between an alternative's comparisons, instead of these, and ahead of a version.
const (
	or    = " || "
	and   = " "
	every = "*"
	none  = "!"
	signs = "=<>~^" // of these a sign is made
)

// parts tells the parts of s, each with how many stand ahead of it; between stands between each two.
func parts(s, between string) iter.Seq2[int, string] {
	return func(yield func(int, string) bool) {
		rest, more := s, true
		for n := 0; more; n++ {
			var part string
			part, rest, more = strings.Cut(rest, between)
			if !yield(n, part) {
				return
			}
		}
	}
}

// read is what a span's text says, in its one form; ErrSpan, if it says none.
func read(s string) ([]stretch, api.Errno) {
	if len(s) > api.MaxText {
		return nil, api.ErrSpan
	}
	var said []stretch
	for n, part := range parts(s, or) {
		one, ok := alternative(part)
		if !ok || n == api.MaxParts {
			return nil, api.ErrSpan
		}
		said = append(said, one)
	}
	return form(said), api.OK
}

// alternative is what an alternative says, and whether s is one.
func alternative(s string) (stretch, bool) {
	switch s {
	case every:
		return all(), true
	case none:
		return stretch{}, true // it ends where it begins
	}
	said := all()
	for n, part := range parts(s, and) {
		one, ok := comparison(part)
		if !ok || n == api.MaxParts {
			return stretch{}, false
		}
		said = meet(said, one)
	}
	return said, true
}

// comparison is what a comparison says, and whether s is one.
func comparison(s string) (stretch, bool) {
	text := strings.TrimLeft(s, signs) // no version begins with one of them
	v, e := version.Read(text)
	if e != api.OK {
		return stretch{}, false
	}
	said := stretch{edge{v, ahead}, edge{v, behind}}
	part := 1
	switch sign := strings.TrimSuffix(s, text); sign {
	case "", "=": // just v
	case "<":
		said.to.side = ahead
		fallthrough
	case "<=":
		said.from = all().from
	case ">":
		said.from.side = behind
		fallthrough
	case ">=":
		said.to = all().to
	case "^":
		part = heaviest(v)
		fallthrough
	case "~":
		said.to = aheadOfNext(v, part)
	default:
		return stretch{}, false
	}
	return said, true
}

// heaviest is the first part of v whose number is not 0; the last one, if all are.
func heaviest(v api.Version) int {
	switch {
	case v.Major != 0:
		return 0
	case v.Minor != 0:
		return 1
	}
	return 2
}

// aheadOfNext is the edge ahead of all versions with one more in a part of v; there is no end, if there are none.
func aheadOfNext(v api.Version, part int) edge {
	next, e := version.Next(v, part)
	if e != api.OK {
		return all().to
	}
	least, _ := version.Least(next)
	return edge{least, ahead}
}

// write is the text of l, which is in its one form; ErrSpan, if it is longer than a text may be.
func write(l []stretch) (string, api.Errno) {
	if len(l) == 0 {
		return none, api.OK
	}
	var alternatives []string
	for _, s := range l {
		text, e := writeOne(s)
		if e != api.OK {
			return "", e
		}
		alternatives = append(alternatives, text)
	}
	text := strings.Join(alternatives, or)
	if len(text) > api.MaxText {
		return "", api.ErrSpan
	}
	return text, api.OK
}

// writeOne is the alternative that says s.
func writeOne(s stretch) (string, api.Errno) {
	if compare(edge{s.from.at, behind}, s.to) == 0 { // it is not empty, so it begins ahead of that version
		return compared("=", s.to)
	}
	low, e := above(s.from)
	if e != api.OK {
		return "", e
	}
	high, e := below(s.to)
	if e != api.OK {
		return "", e
	}
	switch {
	case low == "" && high == "":
		return every, api.OK
	case low == "" || high == "":
		return low + high, api.OK
	}
	return low + and + high, api.OK
}

// above is the comparison that says what is behind an edge; nothing, if all versions are.
func above(from edge) (string, api.Errno) {
	switch {
	case compare(from, all().from) == 0:
		return "", api.OK
	case from.side == behind:
		return compared(">", from)
	}
	return compared(">=", from)
}

// below is the comparison that says what is ahead of an edge; nothing, if all versions are.
func below(to edge) (string, api.Errno) {
	switch to.side {
	case beyond:
		return "", api.OK
	case ahead:
		return compared("<", to)
	}
	return compared("<=", to)
}

// compared is a sign with the text of the version at an edge behind it; ErrSpan, if that text is longer than one may be.
func compared(sign string, at edge) (string, api.Errno) {
	text, e := version.Text(at.at)
	if e != api.OK {
		return "", api.ErrSpan
	}
	return sign + text, api.OK
}
