package page

import (
	"iter"
	"strconv"
	"strings"

	"yankline/api"
	"yankline/event"
	"yankline/sum"
)

// Which line is which, of those that are always there.
const (
	pageAt = iota + 1
	holdersAt
)

// lines goes over the lines of s, and tells whether each has its end.
func lines(s string) iter.Seq2[string, bool] {
	return func(yield func(string, bool) bool) {
		next := cutter(s, end)
		for line, ended := next(); ended || line != ""; line, ended = next() {
			if !yield(line, ended) {
				return
			}
		}
	}
}

// cutter is a call that cuts off s what stands ahead of the next sign, and tells whether there is such a sign; else it cuts off all that is left.
func cutter(s, sign string) func() (part string, more bool) {
	return func() (part string, more bool) {
		part, s, more = strings.Cut(s, sign)
		return part, more
	}
}

// take lets the draft go on by the n-th line. A word that is not as it must be is read as something else: it is known by that this is not written so again, since a page's line has one form.
func (d *draft) take(n int, line string) bool {
	next := cutter(line, blank)
	word := func() string {
		part, _ := next()
		return part
	}
	switch kind, more := next(); {
	case n == pageAt:
		return d.begin(word(), number(word())) && line == pageLine(d.page)
	case n == holdersAt:
		for more {
			var holder string
			if holder, more = next(); !d.hold(holder) {
				return false
			}
		}
		return line == holdersLine(d.page)
	case kind == releaseWord:
		r := api.Release{Version: word(), By: word(), At: number(word()), Sum: hash(word()), N: short(word()), Size: short(word()), Yanked: word() == yanked}
		r.Note = note(d.page.Name, r, word())
		return d.release(r) && line == releaseLine(d.page.Name, r)
	case kind == needWord:
		need := api.Need{Name: word(), Span: strings.ReplaceAll(word(), joint, blank)}
		return d.need(need) && line == needLine(need)
	}
	return false
}

func number(word string) int {
	n, _ := strconv.Atoi(word)
	return n
}

func short(word string) uint32 {
	n, _ := strconv.ParseUint(word, 10, 32)
	return uint32(n)
}

func hash(word string) uint64 {
	n, _ := sum.Read(word)
	return n
}

// note is the note that a word says, at the end of the line of an event by which r would have it.
func note(of string, r api.Release, word string) string {
	kind, _ := event.Word(api.Deprecate)
	e, _ := event.ReadText(joined(kind, r.By, of, r.Version, word))
	return e.Note
}
