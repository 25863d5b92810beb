package version

import (
	"cmp"
	"slices"
	"strings"

	"yankline/api"
)

// kind is what an identifier is.
type kind int

const (
	word   kind = iota
	digits      // and nothing else
)

// pair is the kinds of two identifiers that are held against each other.
type pair struct{ a, b kind }

// Cmp is -1, 0 or 1: whether a is below b, is b, or is above it.
func Cmp(a, b api.Version) (int, api.Errno) {
	if May(a) != api.OK || May(b) != api.OK {
		return 0, api.ErrVersion
	}
	return compare(a, b), api.OK
}

// Order is Cmp of the versions whose texts a and b are.
func Order(a, b string) (int, api.Errno) {
	first, e := Read(a)
	second, f := Read(b)
	if e != api.OK || f != api.OK {
		return 0, api.ErrVersion
	}
	return compare(first, second), api.OK
}

// told is a version with its text, so that a text that is sorted is read but once.
type told struct {
	text string
	v    api.Version
}

// Sort is the texts of versions, rising, each once; ErrVersion, if one of them is none's.
func Sort(l ...string) ([]string, api.Errno) {
	var read []told
	for _, s := range l {
		v, e := Read(s)
		if e != api.OK {
			return nil, e
		}
		read = append(read, told{s, v})
	}
	rising := func(a, b told) int { return compare(a.v, b.v) }
	slices.SortFunc(read, rising)
	var texts []string
	for _, t := range read {
		texts = append(texts, t.text)
	}
	return slices.Compact(texts), api.OK // a version has one text: the same ones stand side by side
}

// compare is Cmp of versions that may be.
func compare(a, b api.Version) int {
	first, second := numbers(a), numbers(b)
	if c := slices.Compare(first[:], second[:]); c != 0 {
		return c
	}
	if len(a.Pre) == 0 || len(b.Pre) == 0 { // not as lists, of which the empty one is the least
		return cmp.Compare(len(b.Pre), len(a.Pre))
	}
	return slices.CompareFunc(a.Pre, b.Pre, compareIdentifiers)
}

func compareIdentifiers(a, b string) int {
	switch p := (pair{kindOf(a), kindOf(b)}); {
	case p == pair{digits, word}:
		return -1
	case p == pair{word, digits}:
		return 1
	case p == pair{digits, digits} && len(a) != len(b):
		return cmp.Compare(len(a), len(b)) // without noughts ahead the longer number is the greater one
	default:
		return strings.Compare(a, b)
	}
}

// kindOf is what an identifier is, of those that have a byte.
func kindOf(s string) kind {
	for i := range len(s) {
		if !digit(s[i]) {
			return word
		}
	}
	return digits
}
