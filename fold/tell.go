package fold

import (
	"iter"
	"slices"

	"yankline/api"
	"yankline/name"
)

// Head is the revision.
func (s *State) Head() int { return s.told().head }

// Accounts is their names, rising.
func (s *State) Accounts() []string { return names(s.told().accounts) }

// Account is the sum of an account's token, and whether there is that account.
func (s *State) Account(who string) (sum uint64, is bool) {
	sum, is = s.told().accounts[who]
	return sum, is
}

// Teams is their names, rising.
func (s *State) Teams() []string { return names(s.told().teams) }

// Members is the accounts in a team, rising, and whether there is that team.
func (s *State) Members(team string) ([]string, bool) {
	members, is := s.told().teams[team]
	return names(members), is
}

// Packages goes over their names, rising.
func (s *State) Packages() iter.Seq[string] {
	return func(yield func(string) bool) {
		for _, name := range names(s.told().packages) {
			if !yield(name) {
				return
			}
		}
	}
}

// Holders is those of a package, rising, and whether there is that package.
func (s *State) Holders(name string) ([]string, bool) {
	p, is := s.told().packages[name]
	if !is {
		return nil, false
	}
	return names(p.holders), true
}

// Touched is the revision that the last event about a package brought about; 0, if there is no such package.
func (s *State) Touched(name string) int {
	p, is := s.told().packages[name]
	if !is {
		return 0
	}
	return p.touched
}

// Releases is those of a package, by versions rising.
func (s *State) Releases(name string) []api.Release {
	p, is := s.told().packages[name]
	if !is {
		return nil
	}
	var l []api.Release
	for _, version := range p.versions {
		r, _ := s.Release(name, version)
		l = append(l, r)
	}
	return l
}

// Release is that of a package's version, and whether there is one.
func (s *State) Release(name, version string) (api.Release, bool) {
	r, is := s.told().releases[place{name, version}]
	r.Needs = slices.Clone(r.Needs)
	return r, is
}

// Like is the package that has the squash of a raw name, and another name, and whether there is one.
func (s *State) Like(raw string) (other string, is bool) {
	squash, _ := name.Squash(raw) // of what is no name it is nothing, which no package has
	other = s.told().squashes[squash].name
	if !name.Like(other, raw) {
		return "", false
	}
	return other, true
}

// told is what there is to tell of: nothing, if there is no state.
func (s *State) told() State {
	if s == nil {
		return State{}
	}
	return *s
}

// names is the keys of a map, rising.
func names[V any](of map[string]V) []string {
	var l []string
	for name := range of {
		l = append(l, name)
	}
	slices.Sort(l)
	return l
}
