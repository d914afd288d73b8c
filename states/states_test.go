package states

import (
	"errors"
	"math"
	"math/rand"
	"slices"
	"strings"
	"testing"

	"lineage/api"
	"lineage/event"
)

// The limits, as the document's table has them.
const (
	maxNodes  = 32
	maxDepth  = 6
	maxBirths = 1048576
	maxClock  = 1099511627776
	stepUp    = 300
)

// fine stands for no place, as the state may be.
const fine = -2

// place is the place at which Check tells that a state may not be.
func place(t *testing.T, st api.State) int {
	t.Helper()
	err := Check(st)
	if err == nil {
		return fine
	}
	for n := api.OK; n <= api.ErrState+1; n++ {
		if errors.Is(err, n) != (n == api.ErrState) {
			t.Fatalf("%+v: errors.Is(%v, %d)", st, err, n)
		}
	}
	var f api.Fault
	if !errors.As(err, &f) || f.No != api.ErrState {
		t.Fatalf("%+v: %v has no place, or another number", st, err)
	}
	return f.At
}

// The plain check: P25.1, one thing behind the other.

func plainPlace(st api.State) int {
	if st.Clock < 0 || st.Clock > maxClock || st.Births < 0 || st.Births > maxBirths || len(st.Sessions) > maxNodes {
		return -1
	}
	for at, s := range st.Sessions {
		if !plainByItself(s) || s.Birth > st.Births || s.Born > st.Clock || s.Deadline <= st.Clock {
			return at
		}
		if at > 0 && s.Birth <= st.Sessions[at-1].Birth {
			return at
		}
		hangs := s.Up == api.Link{}
		for _, p := range st.Sessions[:at] {
			if p.Slot == s.Slot {
				return at
			}
			if p.Slot == s.Up.Slot && p.Birth == s.Up.Birth && plainHangs(s, p) {
				hangs = true
			}
		}
		if !hangs {
			return at
		}
	}
	return fine
}

func plainHangs(s, p api.Session) bool {
	switch {
	case s.Depth != p.Depth+1, s.User != p.User, s.Deadline > p.Deadline, s.Scopes|p.Scopes != p.Scopes:
		return false
	case s.Kind == 2:
		return s.Level > p.Level
	}
	return s.Level <= p.Level
}

func plainByItself(s api.Session) bool {
	_, err := event.Encode(api.Event{Kind: api.EBirth, Born: s})
	return err == nil
}

// login is the one of chapter 25's examples; kid hangs below it.
func login() api.Session {
	return api.Session{Slot: 3, Birth: 1, User: "ann", Scopes: 7, Level: 1, Deadline: 301}
}

func kid() api.Session {
	return api.Session{Slot: 4, Birth: 2, Up: api.Link{Slot: 3, Birth: 1}, Kind: 1, User: "ann", Label: "tv", Scopes: 5, Level: 1, Deadline: 301, Depth: 1}
}

func with(s api.Session, put func(s *api.Session)) api.Session {
	put(&s)
	return s
}

// birth is a login like that one, in another slot.
func birth(slot, birth int) api.Session {
	return with(login(), func(s *api.Session) { s.Slot, s.Birth = slot, birth })
}

// P25.1: the examples of chapter 25, with their answers written out, and what stands beside them.
func TestExamples(t *testing.T) {
	of := func(clock, births int, l ...api.Session) api.State {
		return api.State{Clock: clock, Births: births, Sessions: l}
	}
	for i, c := range []struct {
		st   api.State
		want int
	}{
		{api.State{}, fine},
		{api.State{Sessions: []api.Session{}}, fine},
		{of(300, 2, login()), fine},
		{of(301, 2, login()), 0},
		{of(300, 0, login()), 0},
		{of(-1, 2, login()), -1},
		{of(300, 2, login(), login()), 1},
		{of(300, 2, login(), with(login(), func(s *api.Session) { s.Birth = 2 })), 1},
		{of(300, 2, login(), with(login(), func(s *api.Session) { s.Birth, s.Slot = 2, 4 })), fine},
		{of(300, 2, login(), with(login(), func(s *api.Session) { s.Slot = 4 })), 1},
		{of(300, 3, login(), birth(4, 3), birth(5, 2)), 2},
		{of(300, 3, login(), birth(4, 2), birth(5, 2)), 2},
		{of(300, 3, login(), birth(4, 2), birth(5, 3)), fine},
		{of(300, 3, birth(4, 2), login()), 1},
		{of(300, 2, login(), kid()), fine},
		{of(300, 2, login(), with(kid(), func(s *api.Session) { s.Scopes = 8 })), 1},
		{of(300, 2, login(), with(kid(), func(s *api.Session) { s.Deadline = 302 })), 1},
		{of(300, 2, login(), with(kid(), func(s *api.Session) { s.Depth = 2 })), 1},
		{of(300, 2, login(), with(kid(), func(s *api.Session) { s.Level = 2 })), 1},
		{of(300, 2, login(), with(kid(), func(s *api.Session) { s.Up.Birth = 2 })), 1},
		{of(maxClock, maxBirths), fine},
		{of(maxClock+1, 0), -1},
		{of(0, maxBirths+1), -1},
		{of(0, -1), -1},
		{of(math.MinInt, 0), -1},
		{of(math.MaxInt, math.MaxInt), -1},
	} {
		if at := place(t, c.st); at != c.want {
			t.Errorf("case %d: %+v: at %d, want %d", i, c.st, at, c.want)
		}
	}
}

// P25.1: so many sessions, up to one too many: that is told ahead of what is wrong with each.
func TestManySessions(t *testing.T) {
	var l []api.Session
	for i := range maxNodes {
		l = append(l, api.Session{Slot: maxNodes - 1 - i, Birth: 1 + 2*i, User: "ann", Deadline: 1 + i})
		if at := place(t, api.State{Births: 100, Sessions: l}); at != fine {
			t.Errorf("%d sessions: at %d", i+1, at)
		}
	}
	l = append(l, api.Session{})
	if at := place(t, api.State{Births: 100, Sessions: l}); at != -1 {
		t.Errorf("33 sessions: at %d", at)
	}
	if at := place(t, api.State{Births: 100, Sessions: l[:maxNodes]}); at != fine {
		t.Errorf("behind the list's length: at %d", at)
	}
	l[31] = api.Session{}
	if at := place(t, api.State{Births: 100, Sessions: l[:maxNodes]}); at != 31 {
		t.Errorf("the last one: at %d", at)
	}
}

// changes are of each field of a session, to its edges, and beside what it says.
func changes() []func(s *api.Session) {
	var l []func(s *api.Session)
	number := func(of func(s *api.Session) *int, edges ...int) {
		for _, n := range append(edges, math.MinInt, math.MaxInt) {
			l = append(l, func(s *api.Session) { *of(s) = n })
		}
		l = append(l, func(s *api.Session) { *of(s)++ }, func(s *api.Session) { *of(s)-- })
	}
	number(func(s *api.Session) *int { return &s.Slot }, -1, 0, maxNodes-1, maxNodes)
	number(func(s *api.Session) *int { return &s.Birth }, 0, 1, maxBirths, maxBirths+1)
	number(func(s *api.Session) *int { return &s.Up.Slot }, -1, 0, maxNodes-1, maxNodes)
	number(func(s *api.Session) *int { return &s.Up.Birth }, -1, 0, 1, maxBirths)
	number(func(s *api.Session) *int { return &s.Kind }, -1, 0, 1, 2, 3)
	number(func(s *api.Session) *int { return &s.Level }, -1, 0, 1, 2, 3)
	number(func(s *api.Session) *int { return &s.Born }, -1, 0, 9, 10, 11, maxClock)
	number(func(s *api.Session) *int { return &s.Deadline }, -1, 0, 9, 10, 11, stepUp, stepUp+1, maxClock, maxClock+1)
	number(func(s *api.Session) *int { return &s.Depth }, -1, 0, 1, maxDepth, maxDepth+1)
	for _, text := range []string{"", "ann", "bob", "Ann", strings.Repeat("a", 33)} {
		l = append(l, func(s *api.Session) { s.User = text }, func(s *api.Session) { s.Label = text })
	}
	for _, set := range []api.Set{0, 1, 7, 8, 15, 1 << 63, math.MaxUint64} {
		l = append(l, func(s *api.Session) { s.Scopes = set })
	}
	return l
}

// household is a state of all kinds, of which some hang below one another up to the greatest depth.
func household() api.State {
	st := api.State{Clock: 10, Births: 40}
	st.Sessions = append(st.Sessions, api.Session{Slot: 9, Birth: 2, User: "ann", Scopes: 15, Level: 0, Born: 1, Deadline: 500})
	for i := range maxDepth {
		up := st.Sessions[i]
		s := api.Session{Slot: i, Birth: 3 + 2*i, Up: api.Link{Slot: up.Slot, Birth: up.Birth}, Kind: 1, User: "ann", Label: "tv", Scopes: up.Scopes >> (i / 2), Level: up.Level, Born: 2 + i, Deadline: up.Deadline - i, Depth: i + 1}
		if i == 1 || i == 4 {
			s.Kind, s.Level, s.Deadline = 2, s.Level+1, min(s.Deadline, 290)
		}
		s.Scopes &= up.Scopes
		st.Sessions = append(st.Sessions, s)
	}
	st.Sessions = append(st.Sessions,
		api.Session{Slot: 31, Birth: 30, User: "bob", Scopes: 1 << 63, Level: 2, Born: 10, Deadline: 11},
		api.Session{Slot: 30, Birth: 40, Up: api.Link{Slot: 31, Birth: 30}, Kind: 1, User: "bob", Label: "tv", Scopes: 1 << 63, Level: 0, Born: 10, Deadline: 11, Depth: 1})
	return st
}

// P25.1: each field of each session, changed; one of them, and two at once.
func TestChanges(t *testing.T) {
	if at := place(t, household()); at != fine {
		t.Fatalf("the household: at %d", at)
	}
	all := changes()
	r := rand.New(rand.NewSource(25))
	seen := map[int]int{}
	held := func(st api.State) {
		t.Helper()
		at, want := place(t, st), plainPlace(st)
		if at != want {
			t.Fatalf("%+v: at %d, want %d", st, at, want)
		}
		seen[at]++
	}
	for i := range household().Sessions {
		for _, one := range all {
			st := household()
			one(&st.Sessions[i])
			held(st)
			for range 20 {
				st := household()
				one(&st.Sessions[i])
				all[r.Intn(len(all))](&st.Sessions[r.Intn(len(st.Sessions))])
				st.Births, st.Clock = st.Births-r.Intn(3), st.Clock+r.Intn(3)-1
				held(st)
			}
		}
	}
	for at := range household().Sessions {
		if seen[at] < 100 {
			t.Errorf("%d was told just %d times", at, seen[at])
		}
	}
	if seen[fine] < 100 {
		t.Errorf("just %d may be", seen[fine])
	}
}

// P25.5: a state that may be, may be with fewer births at its end, with more Births, and with a Clock that is earlier.
func TestLessAndMore(t *testing.T) {
	for n := range len(household().Sessions) + 1 {
		st := household()
		st.Sessions = st.Sessions[:n]
		for _, births := range []int{st.Births, st.Births + 1, maxBirths} {
			st.Births = births
			if at := place(t, st); at != fine {
				t.Errorf("%d sessions, %d births: at %d", n, births, at)
			}
		}
		most := 0
		for _, s := range st.Sessions {
			most = max(most, s.Born)
		}
		for clock := range st.Clock {
			st.Clock = clock
			if at := place(t, st); (at == fine) != (clock >= most) {
				t.Errorf("%d sessions at %d: at %d", n, clock, at)
			}
		}
	}
}

// What may be born by itself, and hang below what.
func TestTwo(t *testing.T) {
	all := changes()
	for _, p := range household().Sessions {
		for _, s := range household().Sessions {
			for _, one := range all {
				s := with(s, one)
				if got, want := ByItself(s), plainByItself(s); got != want {
					t.Fatalf("ByItself of %+v: %t", s, got)
				}
				if plainByItself(s) && Hangs(s, p) != plainHangs(s, p) {
					t.Fatalf("%+v below %+v: %t", s, p, !plainHangs(s, p))
				}
			}
		}
	}
}

// R4: what is handed in stays as it was.
func TestUnchanged(t *testing.T) {
	st := household()
	Check(st)
	if !slices.Equal(st.Sessions, household().Sessions) {
		t.Errorf("%+v", st)
	}
}
