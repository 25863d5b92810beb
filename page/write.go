package page

import (
	"strconv"
	"strings"

	"yankline/api"
	"yankline/event"
	"yankline/sum"
)

// What stands in a page's text: ahead of a line's other words; as whether a release is yanked; between words; there instead within a span; behind each line.
const (
	pageWord    = "page"
	holdersWord = "holders"
	releaseWord = "release"
	needWord    = "need"

	yanked = "yanked"
	open   = "-"

	blank = " "
	joint = "_" // no span has one
	end   = "\n"
)

// write is the text of p, which may be.
func write(p api.Page) string {
	var text []byte
	add := func(line string) {
		text = append(text, line...)
		text = append(text, end...)
	}
	add(pageLine(p))
	add(holdersLine(p))
	for _, r := range p.Releases {
		add(releaseLine(p.Name, r))
		for _, n := range r.Needs {
			add(needLine(n))
		}
	}
	return string(text)
}

func pageLine(p api.Page) string { return joined(pageWord, p.Name, strconv.Itoa(p.At)) }

func holdersLine(p api.Page) string { return joined(append([]string{holdersWord}, p.Holders...)...) }

func releaseLine(of string, r api.Release) string {
	state := open
	if r.Yanked {
		state = yanked
	}
	return joined(releaseWord, r.Version, r.By, strconv.Itoa(r.At), sum.Text(r.Sum), decimal(r.N), decimal(r.Size), state, noteWord(of, r))
}

func needLine(n api.Need) string {
	return joined(needWord, n.Name, strings.ReplaceAll(n.Span, blank, joint))
}

// noteWord is the note of r as it stands in an event's line, where it is the last word.
func noteWord(of string, r api.Release) string {
	line, _ := event.Text(noted(of, r))
	return line[strings.LastIndex(line, blank)+1:]
}

func joined(words ...string) string { return strings.Join(words, blank) }

func decimal(n uint32) string { return strconv.FormatUint(uint64(n), 10) }
