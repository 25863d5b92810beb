package rule

import (
	"errors"
	"slices"

	"yankline/api"
	"yankline/fold"
	"yankline/name"
	"yankline/team"
)

// why is the number of the first thing that e, of which s.Fits tells fits, needs and that is not so, and the name that is told with it; OK, if all is so.
func why(s *fold.State, e api.Event, fits error) (no api.Errno, of string) {
	if errors.Is(fits, api.ErrEvent) {
		return api.ErrEvent, ""
	}
	if e.Kind != api.Account && !isAccount(s, e.Who) { // who comes to be is not there as yet
		return api.ErrWho, ""
	}
	if no, of = mayNot(s, e); no != api.OK {
		return no, of
	}
	// Who asks is there by now, and the package or the team, too: what does not fit is what is done to that.
	if errors.Is(fits, api.ErrFold) {
		return unfit(s, e), ""
	}
	return unsound(s, e)
}

// mayNot is why e's asker may do nothing of that kind: the package or the team is another one's, or not there.
func mayNot(s *fold.State, e api.Event) (no api.Errno, of string) {
	switch e.Kind {
	case api.Publish:
		if name.Reserved(e.Name) {
			return api.ErrReserved, ""
		}
		if other, is := s.Like(e.Name); is {
			return api.ErrLike, other
		}
		if !isPackage(s, e.Name) { // a new one is nobody's as yet
			return api.OK, ""
		}
		fallthrough
	case api.Yank, api.Unyank, api.Deprecate, api.Own, api.Disown:
		if !isPackage(s, e.Name) {
			return api.ErrNone, ""
		}
		if !team.Owns(s, e.Who, e.Name) {
			return api.ErrOwner, ""
		}
	case api.Join, api.Leave:
		members, is := s.Members(e.Holder)
		if !is {
			return api.ErrNone, ""
		}
		if !slices.Contains(members, e.Who) {
			return api.ErrMember, ""
		}
	}
	return api.OK, ""
}

// unfit is why e, whose asker may do it, does not fit: what it is done to is not there, or it is so already.
func unfit(s *fold.State, e api.Event) api.Errno {
	there := true
	switch e.Kind {
	case api.Yank, api.Unyank, api.Deprecate:
		_, there = s.Release(e.Name, e.Version)
	case api.Own:
		there = isHolder(s, e.Holder)
	case api.Join:
		there = isAccount(s, e.Note)
	case api.Disown, api.Leave: // whoever is there can be taken away
		there = false
	}
	if !there {
		return api.ErrNone
	}
	return api.ErrThere
}

// unsound is why e, though it fits, would leave what may not be: two accounts of one token, or a package of nobody.
func unsound(s *fold.State, e api.Event) (no api.Errno, of string) {
	switch e.Kind {
	case api.Account:
		if isKnown(s, e.Sum) {
			return api.ErrThere, ""
		}
	case api.Disown:
		if len(team.Without(s, e.Name, e.Holder)) == 0 {
			return api.ErrLast, ""
		}
	case api.Leave:
		if last, is := lost(s, e.Holder); is {
			return api.ErrLast, last
		}
	}
	return api.OK, ""
}

// lost is the first package, by names rising, that would have no owner any more if one of the team's members left it, and whether there is one.
func lost(s *fold.State, from string) (name string, is bool) {
	if members, _ := s.Members(from); len(members) > 1 { // those who stay own what the team holds
		return "", false
	}
	for name := range s.Packages() {
		holders, _ := s.Holders(name)
		if slices.Contains(holders, from) && len(team.Without(s, name, from)) == 0 {
			return name, true
		}
	}
	return "", false
}

func isAccount(s *fold.State, who string) bool {
	_, is := s.Account(who)
	return is
}

// isHolder is whether there is an account or a team of that name.
func isHolder(s *fold.State, who string) bool {
	_, is := s.Members(who)
	return is || isAccount(s, who)
}

func isPackage(s *fold.State, name string) bool {
	_, is := s.Holders(name)
	return is
}

// isKnown is whether a token of that sum is an account's.
func isKnown(s *fold.State, sum uint64) bool {
	return slices.ContainsFunc(s.Accounts(), func(who string) bool {
		held, _ := s.Account(who)
		return held == sum
	})
}
