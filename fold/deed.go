package fold

import (
	"slices"

	"yankline/api"
	"yankline/name"
	"yankline/version"
)

// deed is of a kind of events: whether one that may be fits what there is, and what one that fits makes.
type deed struct {
	fits  func(*State, api.Event) bool
	makes func(*State, api.Event)
}

// deeds is those of the kinds.
func deeds() [api.Leave + 1]deed {
	return [...]deed{
		api.Account:   {(*State).accountFits, (*State).addAccount},
		api.Publish:   {(*State).publishFits, (*State).addRelease},
		api.Yank:      {(*State).yankFits, (*State).yank},
		api.Unyank:    {(*State).unyankFits, (*State).unyank},
		api.Deprecate: {(*State).deprecateFits, (*State).deprecate},
		api.Own:       {(*State).ownFits, (*State).addHolder},
		api.Disown:    {(*State).disownFits, (*State).dropHolder},
		api.Team:      {(*State).teamFits, (*State).addTeam},
		api.Join:      {(*State).joinFits, (*State).addMember},
		api.Leave:     {(*State).leaveFits, (*State).dropMember},
	}
}

func (s *State) accountFits(e api.Event) bool { return !s.isHolder(e.Who) }

func (s *State) addAccount(e api.Event) { s.accounts[e.Who] = e.Sum }

func (s *State) publishFits(e api.Event) bool {
	_, like := s.Like(e.Name)
	_, there := s.releases[placeOf(e)]
	return !like && !there
}

func (s *State) addRelease(e api.Event) {
	p, is := s.packages[e.Name]
	if !is {
		p = s.addPack(e)
	}
	at, _ := slices.BinarySearchFunc(p.versions, e.Version, order)
	p.versions = slices.Insert(p.versions, at, e.Version)
	s.releases[placeOf(e)] = api.Release{
		Version: e.Version, By: e.Who, At: s.head, Needs: slices.Clone(e.Needs), Sum: e.Sum, N: e.N, Size: e.Size,
	}
}

// addPack is the new package that e is about.
func (s *State) addPack(e api.Event) *pack {
	p := &pack{holders: set{e.Who: {}}}
	s.packages[e.Name] = p
	squash, _ := name.Squash(e.Name)
	s.squashes[squash] = named{e.Name}
	return p
}

func (s *State) yankFits(e api.Event) bool {
	r, is := s.releases[placeOf(e)]
	return is && !r.Yanked
}

func (s *State) yank(e api.Event) { s.change(e, func(r *api.Release) { r.Yanked = true }) }

func (s *State) unyankFits(e api.Event) bool { return s.releases[placeOf(e)].Yanked }

func (s *State) unyank(e api.Event) { s.change(e, func(r *api.Release) { r.Yanked = false }) }

func (s *State) deprecateFits(e api.Event) bool {
	r, is := s.releases[placeOf(e)]
	return is && r.Note != e.Note
}

func (s *State) deprecate(e api.Event) { s.change(e, func(r *api.Release) { r.Note = e.Note }) }

func (s *State) ownFits(e api.Event) bool {
	p, is := s.packages[e.Name]
	return is && s.isHolder(e.Holder) && !p.holders.has(e.Holder)
}

func (s *State) addHolder(e api.Event) { s.packages[e.Name].holders[e.Holder] = struct{}{} }

func (s *State) disownFits(e api.Event) bool {
	p, is := s.packages[e.Name]
	return is && p.holders.has(e.Holder)
}

func (s *State) dropHolder(e api.Event) { delete(s.packages[e.Name].holders, e.Holder) }

func (s *State) teamFits(e api.Event) bool { return !s.isHolder(e.Holder) }

func (s *State) addTeam(e api.Event) { s.teams[e.Holder] = set{e.Who: {}} }

func (s *State) joinFits(e api.Event) bool {
	members, is := s.teams[e.Holder]
	return is && s.isAccount(e.Note) && !members.has(e.Note)
}

func (s *State) addMember(e api.Event) { s.teams[e.Holder][e.Note] = struct{}{} }

func (s *State) leaveFits(e api.Event) bool { return s.teams[e.Holder].has(e.Note) }

func (s *State) dropMember(e api.Event) { delete(s.teams[e.Holder], e.Note) }

// change makes of the release that e is about what to makes of it.
func (s *State) change(e api.Event, to func(*api.Release)) {
	r := s.releases[placeOf(e)]
	to(&r)
	s.releases[placeOf(e)] = r
}

func (s *State) isAccount(who string) bool {
	_, is := s.accounts[who]
	return is
}

// isHolder is whether there is an account or a team of that name.
func (s *State) isHolder(who string) bool {
	_, is := s.teams[who]
	return is || s.isAccount(who)
}

func (l set) has(who string) bool {
	_, is := l[who]
	return is
}

// placeOf is where the release stands that e is about.
func placeOf(e api.Event) place { return place{e.Name, e.Version} }

// order is that of the texts of versions.
func order(a, b string) int {
	c, _ := version.Order(a, b)
	return c
}
