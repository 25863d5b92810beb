package span

import (
	"cmp"
	"slices"

	"yankline/api"
	"yankline/version"
)

// side is where an edge is.
type side int

const (
	ahead  side = iota // right ahead of its version
	behind             // right behind it
	beyond             // behind all versions: it has none
)

// edge is a bound that does not hang on whether something begins or ends there: what ends at an edge touches what begins there.
type edge struct {
	at   api.Version
	side side
}

// stretch is the versions between two edges.
type stretch struct{ from, to edge }

// all is the stretch of all versions.
func all() stretch {
	least, _ := version.Least(api.Version{})
	return stretch{edge{least, ahead}, edge{side: beyond}}
}

// compare is -1, 0 or 1: whether a is ahead of b, is b, or is behind it.
func compare(a, b edge) int {
	if a.side == beyond || b.side == beyond {
		return cmp.Compare(a.side, b.side)
	}
	if c, _ := version.Cmp(a.at, b.at); c != 0 {
		return c
	}
	return cmp.Compare(a.side, b.side)
}

// empty is whether nothing can be in s. (That no version happens to stand between two edges does not make it so.)
func empty(s stretch) bool { return compare(s.from, s.to) >= 0 }

// meet is what is in both; an empty stretch stays empty, whatever it meets.
func meet(s, t stretch) stretch {
	if compare(s.from, t.from) < 0 {
		s.from = t.from
	}
	if compare(s.to, t.to) > 0 {
		s.to = t.to
	}
	return s
}

// form is the one form of what is in one of l, which is written over.
func form(l []stretch) []stretch {
	l = slices.DeleteFunc(l, empty)
	slices.SortFunc(l, func(s, t stretch) int { return compare(s.from, t.from) })
	var apart []stretch
	for _, s := range l {
		last := len(apart) - 1
		switch {
		case last < 0 || compare(apart[last].to, s.from) < 0:
			apart = append(apart, s)
		case compare(apart[last].to, s.to) < 0:
			apart[last].to = s.to
		}
	}
	return apart
}

// has is whether v, which may be, is in one of l.
func has(l []stretch, v api.Version) bool {
	for _, s := range l {
		if compare(s.from, edge{v, ahead}) <= 0 && compare(edge{v, behind}, s.to) <= 0 {
			return true
		}
	}
	return false
}

// stretches is what a span has; ErrSpan, unless it is in its one form.
func stretches(l []api.Interval) ([]stretch, api.Errno) {
	if len(l) > api.MaxParts { // ahead of going through l, which may be of any length
		return nil, api.ErrSpan
	}
	var apart []stretch
	for n, i := range l {
		if !may(i) {
			return nil, api.ErrSpan
		}
		s := stretchOf(i)
		if empty(s) || n > 0 && compare(apart[n-1].to, s.from) >= 0 {
			return nil, api.ErrSpan
		}
		apart = append(apart, s)
	}
	return apart, api.OK
}

// may is whether i may be, and has nothing where it has no end.
func may(i api.Interval) bool {
	if version.May(i.Low.At) != api.OK || version.May(i.High.At) != api.OK {
		return false
	}
	return !i.Endless || zero(i.High)
}

// zero is whether a bound, whose version may be, is nothing.
func zero(b api.Bound) bool {
	c, _ := version.Cmp(b.At, api.Version{})
	return c == 0 && !b.Open
}

// stretchOf is what an interval that may be has.
func stretchOf(i api.Interval) stretch {
	s := stretch{edge{i.Low.At, ahead}, edge{i.High.At, behind}}
	if i.Low.Open {
		s.from.side = behind
	}
	if i.High.Open {
		s.to.side = ahead
	}
	if i.Endless {
		s.to = edge{side: beyond}
	}
	return s
}

// intervals is the span of l, which is in its one form; ErrSpan, if they are too many.
func intervals(l []stretch) ([]api.Interval, api.Errno) {
	if len(l) > api.MaxParts {
		return nil, api.ErrSpan
	}
	var span []api.Interval
	for _, s := range l {
		span = append(span, api.Interval{
			Low:     api.Bound{At: own(s.from.at), Open: s.from.side == behind},
			High:    api.Bound{At: own(s.to.at), Open: s.to.side == ahead}, // nothing, if there is no end: that edge has no version
			Endless: s.to.side == beyond,
		})
	}
	return span, api.OK
}

// own is v with a list of its own: edges are moved as they are, so that several may have one.
func own(v api.Version) api.Version {
	v.Pre = append([]string(nil), v.Pre...)
	return v
}
