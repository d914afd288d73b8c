// Package states says which states may be: see P25.1 in shared/doc/25-image.md. It is no layer: forest and image ask it both, so that they say the same.
package states

import (
	"slices"

	"lineage/api"
	"lineage/bits"
	"lineage/event"
)

// Check tells what is wrong with a state; the place is a session's index, or -1.
func Check(st api.State) error {
	if !mayCount(st) {
		return wrong(-1)
	}
	for at := range st.Sessions {
		if !mayStand(st, at) {
			return wrong(at)
		}
	}
	return nil
}

// ByItself tells whether a session may be born, as far as it says itself.
func ByItself(s api.Session) bool {
	_, err := event.Encode(api.Event{Kind: api.EBirth, Born: s})
	return err == nil
}

// Hangs tells whether a session may hang below a parent, which is where its Up says. Both may be born by themselves.
func Hangs(s, parent api.Session) bool {
	return s.Depth == parent.Depth+1 && s.User == parent.User && s.Deadline <= parent.Deadline &&
		bits.Within(s.Scopes, parent.Scopes) && (s.Kind == api.KRaised) == (s.Level > parent.Level)
}

func wrong(at int) error { return api.Fault{No: api.ErrState, At: at} }

// mayCount asks a state's numbers, and how many sessions it has.
func mayCount(st api.State) bool {
	return within(st.Clock, 0, api.MaxClock) && within(st.Births, 0, api.MaxBirths) && len(st.Sessions) <= api.MaxNodes
}

// mayStand tells whether a session may stand where it does, behind those ahead of it, of which each one may.
func mayStand(st api.State, at int) bool {
	s, ahead := st.Sessions[at], st.Sessions[:at]
	return ByItself(s) && within(s.Birth, lastBirth(ahead)+1, st.Births) &&
		s.Born <= st.Clock && s.Deadline > st.Clock &&
		!takes(ahead, s.Slot) && hangsIn(ahead, s)
}

// lastBirth is the birth number of the last one of some sessions: 0, which none has, if there are none.
func lastBirth(l []api.Session) int {
	if len(l) == 0 {
		return 0
	}
	return l[len(l)-1].Birth
}

// takes tells whether one of some sessions lies in a slot.
func takes(l []api.Session, slot int) bool {
	return slices.ContainsFunc(l, func(s api.Session) bool { return s.Slot == slot })
}

// hangsIn tells whether a session is a root, or may hang below one of those ahead of it.
func hangsIn(ahead []api.Session, s api.Session) bool {
	if s.Up == (api.Link{}) {
		return true
	}
	return slices.ContainsFunc(ahead, func(p api.Session) bool {
		return s.Up == api.Link{Slot: p.Slot, Birth: p.Birth} && Hangs(s, p)
	})
}

func within(n, least, most int) bool { return least <= n && n <= most }
