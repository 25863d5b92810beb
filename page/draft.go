package page

import (
	"yankline/api"
	"yankline/event"
	"yankline/name"
	"yankline/span"
	"yankline/version"
)

// draft is a page as far as it goes by now. Each of its calls lets it go on, and tells whether a page may go on so; a draft that may not is of no use any more.
type draft struct {
	page api.Page
	ats  map[int]struct{} // the revisions of its releases
}

func newDraft() *draft { return &draft{ats: map[int]struct{}{}} }

// may is whether p may be.
func may(p api.Page) bool {
	d := newDraft()
	if !d.begin(p.Name, p.At) {
		return false
	}
	for _, holder := range p.Holders {
		if !d.hold(holder) {
			return false
		}
	}
	for _, r := range p.Releases {
		if !d.release(r) {
			return false
		}
		for _, n := range r.Needs {
			if !d.need(n) {
				return false
			}
		}
	}
	return d.whole()
}

// begin is by what stands ahead of all else.
func (d *draft) begin(title string, at int) bool {
	d.page.Name, d.page.At = title, at
	return name.Is(title) && at >= 1
}

// hold is by one more holder; a page may have none.
func (d *draft) hold(holder string) bool {
	l := d.page.Holders
	if name.Holder(holder) != api.OK || len(l) > 0 && holder <= l[len(l)-1] {
		return false
	}
	d.page.Holders = append(l, holder)
	return true
}

// release is by one more release, without its needs: they come one by one.
func (d *draft) release(r api.Release) bool {
	r.Needs = nil
	if event.May(published(d.page.Name, r)) != api.OK || event.May(noted(d.page.Name, r)) != api.OK {
		return false
	}
	if last := d.last(); last != nil && !above(r.Version, last.Version) {
		return false
	}
	if _, met := d.ats[r.At]; met || r.At < 1 || r.At > d.page.At {
		return false
	}
	d.ats[r.At] = struct{}{}
	d.page.Releases = append(d.page.Releases, r)
	return true
}

// need is by one more need of the last release.
func (d *draft) need(n api.Need) bool {
	r := d.last()
	if r == nil || len(r.Needs) == api.MaxNeeds || !name.Is(n.Name) || !span.Is(n.Span) {
		return false
	}
	if had := len(r.Needs); had > 0 && n.Name <= r.Needs[had-1].Name {
		return false
	}
	r.Needs = append(r.Needs, n)
	return true
}

// whole is whether nothing is wanting any more: a release comes behind all that there must be.
func (d *draft) whole() bool { return d.last() != nil }

// last is the last release; nil, if there is none as yet.
func (d *draft) last() *api.Release {
	l := d.page.Releases
	if len(l) == 0 {
		return nil
	}
	return &l[len(l)-1]
}

// published is the event by which a package has r.
func published(of string, r api.Release) api.Event {
	return api.Event{Kind: api.Publish, Who: r.By, Name: of, Version: r.Version, Needs: r.Needs, Sum: r.Sum, N: r.N, Size: r.Size}
}

// noted is an event by which r would have its note.
func noted(of string, r api.Release) api.Event {
	return api.Event{Kind: api.Deprecate, Who: r.By, Name: of, Version: r.Version, Note: r.Note}
}

// above is whether the version whose text a is stands above that of b.
func above(a, b string) bool {
	c, _ := version.Order(a, b)
	return c > 0
}
