package forest

import (
	"math"
	"math/rand"
	"slices"
	"strconv"
	"strings"
	"testing"
	"unsafe"

	"lineage/api"
)

// ask is what the chapter's examples ask of a birth.
func ask(level, life int) api.Request {
	return api.Request{User: "ann", Label: "tv", Scopes: 7, Level: level, Life: life}
}

func at(slot, birth int) api.Link { return api.Link{Slot: slot, Birth: birth} }

// birth is a birth that must succeed.
func (x *pair) birth(kind int, up api.Link, r api.Request) api.Session {
	x.t.Helper()
	s, no := x.plan(kind, up, r)
	if no != api.OK {
		x.t.Fatalf("Plan %d below %+v, %+v: %v", kind, up, r, no)
	}
	if no := x.born(s); no != api.OK {
		x.t.Fatalf("Born %+v: %v", s, no)
	}
	return s
}

func (x *pair) must(no api.Errno) {
	x.t.Helper()
	if no != api.OK {
		x.t.Fatal(no)
	}
}

// The chapter's examples, with their answers written out.
func TestExamples(t *testing.T) {
	f := New()
	one := api.Session{Slot: 0, Birth: 1, User: "ann", Scopes: 7, Level: 1, Deadline: 100}
	two := api.Session{Slot: 1, Birth: 2, Up: at(0, 1), Kind: 1, User: "ann", Label: "tv", Scopes: 7, Level: 1, Deadline: 100, Depth: 1}
	three := api.Session{Slot: 2, Birth: 3, Up: at(0, 1), Kind: 2, User: "ann", Label: "tv", Scopes: 7, Level: 2, Deadline: 10, Depth: 1}
	plans := func(kind int, up api.Link, r api.Request, want api.Session, no api.Errno) {
		t.Helper()
		s, err := f.Plan(kind, up, r)
		tells(t, "Plan", err, no)
		if s != want {
			t.Fatalf("Plan: %+v, want %+v", s, want)
		}
	}
	lives := func(clock, births int, want ...api.Session) {
		t.Helper()
		if st := f.State(); !sameState(st, api.State{Clock: clock, Births: births, Sessions: want}) {
			t.Fatalf("State: %+v, want %+v", st, want)
		}
	}
	frees := func(garbage int, first ...int) {
		t.Helper()
		for i := range maxNodes {
			if i > 2 {
				first = append(first, i)
			}
		}
		if d := f.Dump(); !slices.Equal(d.Free, first) || d.Garbage != garbage {
			t.Fatalf("free %v, want %v; garbage %d, want %d", d.Free, first, d.Garbage, garbage)
		}
	}
	if f.Writes() != 0 {
		t.Fatalf("Writes of a new one: %d", f.Writes())
	}
	frees(-1, 0, 1, 2)
	plans(0, at(0, 0), ask(1, 100), one, api.OK)
	tells(t, "Born", f.Born(one), api.OK)
	lives(0, 1, one)
	plans(1, at(0, 1), ask(1, 100), two, api.OK)
	tells(t, "Born", f.Born(two), api.OK)
	plans(2, at(0, 1), ask(2, 10), three, api.OK)
	tells(t, "Born", f.Born(three), api.OK)
	if l := gone(f.Under(at(0, 1))); !slices.Equal(l, []api.Session{one, two, three}) {
		t.Fatalf("Under: %+v", l)
	}
	tells(t, "Born", f.Born(one), api.ErrBirths)
	plans(1, at(0, 2), ask(1, 100), api.Session{}, api.ErrNoSession)
	tells(t, "Tick", f.Tick(10), api.OK)
	lives(10, 3, one, two)
	frees(2)
	tells(t, "Revoke", f.Revoke(at(0, 1)), api.OK)
	tells(t, "Revoke", f.Revoke(at(1, 2)), api.ErrNoSession)
	tells(t, "Sweep", f.Sweep(1), api.OK)
	tells(t, "Sweep", f.Sweep(-1), api.ErrBudget)
	frees(0, 2)
	tells(t, "Sweep", f.Sweep(9), api.OK)
	frees(-1, 1, 0, 2)
	lives(10, 3)
}

// setup is a forest at one of the edges.
type setup struct {
	name string
	make func(t *testing.T) *pair
}

func setups() []setup {
	return []setup{
		{"none", newPair},
		{"one", func(t *testing.T) *pair { return fill(t, 1, 0) }},
		{"family", family},
		{"all but one live", func(t *testing.T) *pair { return fill(t, maxNodes-1, 6) }},
		{"all live", func(t *testing.T) *pair { return fill(t, maxNodes, 6) }},
		{"all live, no one above another", func(t *testing.T) *pair { return fill(t, maxNodes, 0) }},
		{"all used, some garbage", func(t *testing.T) *pair {
			x := fill(t, maxNodes, 6)
			x.p.revoke(at(8, 9))
			x.must(errno(x.f.Revoke(at(8, 9))))
			return x
		}},
		{"all garbage, of one", func(t *testing.T) *pair {
			x := fill(t, maxNodes, 31)
			x.p.revoke(at(0, 1))
			x.must(errno(x.f.Revoke(at(0, 1))))
			return x
		}},
		{"all garbage, of time", func(t *testing.T) *pair {
			x := fill(t, maxNodes, 3)
			x.p.tick(100)
			x.must(errno(x.f.Tick(100)))
			return x
		}},
		{"no births more", func(t *testing.T) *pair {
			return pairOf(t, api.State{Births: maxBirths, Sessions: []api.Session{{Slot: 4, Birth: maxBirths, User: "ann", Scopes: 7, Deadline: 100}}})
		}},
		{"one birth more", func(t *testing.T) *pair {
			return pairOf(t, api.State{Births: maxBirths - 1, Sessions: []api.Session{{Slot: 4, Birth: 9, User: "ann", Scopes: 7, Deadline: 100}}})
		}},
		{"just ahead of the clock's end", func(t *testing.T) *pair {
			return pairOf(t, api.State{Clock: maxClock - 1, Births: 1, Sessions: []api.Session{{Slot: 31, Birth: 1, User: "ann", Scopes: 7, Deadline: maxClock}}})
		}},
		{"at the clock's end", func(t *testing.T) *pair { return pairOf(t, api.State{Clock: maxClock}) }},
	}
}

func errno(err error) api.Errno {
	if err == nil {
		return api.OK
	}
	return api.ErrArg
}

// fill is a pair with so many births, each login with so many below it: the first of each three of these hang below one another.
func fill(t *testing.T, births, below int) *pair {
	x := newPair(t)
	var up api.Link
	top := 0
	for i := range births {
		kind, r := api.KDelegated, ask(1, 100-i%3)
		switch behind := i % (below + 1); {
		case behind == 0:
			kind, r, top = api.KLogin, ask(1, 100), i
		case behind%3 == 1:
			up = at(top, top+1)
		}
		s, err := x.f.Plan(kind, up, r)
		if err != nil || x.f.Born(s) != nil || x.p.born(s) != api.OK {
			t.Fatalf("%d births, %d below each login: %+v, %v", births, below, s, err)
		}
		up = linkOf(s)
	}
	return x
}

// family has a row of the greatest depth, some that were revoked, are over, and hang below such; and slots that were given anew.
func family(t *testing.T) *pair {
	x := newPair(t)
	up := linkOf(x.birth(api.KLogin, api.Link{}, ask(0, 1000)))
	for i := range maxDepth {
		up = linkOf(x.birth(api.KDelegated, up, ask(0, 900-i)))
	}
	second := linkOf(x.birth(api.KLogin, api.Link{}, ask(0, 500)))
	kid := linkOf(x.birth(api.KRaised, second, ask(1, 300)))
	x.birth(api.KDelegated, kid, ask(0, 200))
	x.birth(api.KDelegated, second, ask(0, 5))
	third := linkOf(x.birth(api.KLogin, api.Link{}, ask(2, 50)))
	x.birth(api.KDelegated, third, ask(2, 40))
	x.birth(api.KDelegated, third, ask(2, 30))
	x.must(x.tick(5))
	x.must(x.revoke(third))
	x.must(x.sweep(2))
	x.birth(api.KLogin, api.Link{}, ask(1, 60))
	x.must(x.revoke(kid))
	return x
}

// edgeInts are the edges of a number that should be from least to most.
func edgeInts(least, most int) []int {
	return []int{least - 1, least, most, most + 1, math.MinInt, math.MaxInt}
}

// edgeLinks are links of all slots, and of what is none, with the birth that lies there, and ones beside it; and of all that was ended.
func edgeLinks(x *pair) []api.Link {
	l := []api.Link{{}}
	for i, s := range x.f.Dump().Slots {
		l = append(l, at(i, s.S.Birth), at(i, s.S.Birth-1), at(i, s.S.Birth+1))
	}
	for _, i := range edgeInts(0, maxNodes-1) {
		for _, b := range []int{-1, 0, 1, x.p.births, x.p.births + 1, maxBirths, maxBirths + 1, math.MinInt, math.MaxInt} {
			l = append(l, at(i, b))
		}
		for _, s := range x.p.live {
			l = append(l, at(i, s.Birth))
		}
	}
	l = append(l, x.p.ended...)
	for _, i := range []int{1, 5, maxNodes - 2} {
		l = append(l, at(i, math.MinInt), at(i, math.MaxInt))
	}
	return l
}

// someLinks are the ones that live, and were ended, and a few others.
func someLinks(x *pair) []api.Link {
	l := []api.Link{{}, at(-1, 1), at(maxNodes, 1), at(maxNodes-1, 1), at(0, x.p.births+1), at(math.MinInt, 1), at(math.MaxInt, 1)}
	for _, s := range x.p.live {
		l = append(l, linkOf(s))
	}
	return append(l, x.p.ended...)
}

// P23.2: all kinds, links and requests at the edges, in all forests.
func TestPlanEdges(t *testing.T) {
	requests := []api.Request{
		ask(1, 100), ask(2, 300), ask(0, 1), ask(2, 301), ask(1, 0), ask(3, 10), {},
		{User: "Ann", Label: "tv", Level: 2, Life: 1}, {User: "bob", Label: "T", Level: 2, Life: 1}, {User: "bob", Label: "", Level: 2, Life: 1},
		{User: "bob", Label: "tv", Scopes: 15, Level: 2, Life: 1}, {User: "bob", Label: "tv", Scopes: 0, Level: 2, Life: 1 << 30},
	}
	for _, u := range setups() {
		x := u.make(t)
		asks := func(kind int, l api.Link, r api.Request) {
			writes := x.f.Writes()
			// What was freed for one isn't there for the next: each begins with the forest as it was made.
			if x.plan(kind, l, r); x.f.Writes() != writes {
				x = u.make(t)
			}
		}
		for _, kind := range []int{-1, 0, 1, 2, 3, math.MinInt, math.MaxInt} {
			for _, l := range edgeLinks(x) {
				asks(kind, l, requests[0])
			}
			for _, l := range someLinks(x) {
				for _, r := range requests {
					asks(kind, l, r)
				}
			}
		}
	}
}

// P23.2: each error is told ahead of all that come behind it, wherever several apply.
func TestPlanOrder(t *testing.T) {
	all := setups()
	x := all[slices.IndexFunc(all, func(u setup) bool { return u.name == "all live" })].make(t)
	y := all[slices.IndexFunc(all, func(u setup) bool { return u.name == "no births more" })].make(t)
	bad := api.Request{User: "Ann", Label: "Tv", Scopes: 15, Level: 3}
	for _, c := range []struct {
		x    *pair
		kind int
		up   api.Link
		r    api.Request
		no   api.Errno
	}{
		{x, 3, at(0, 2), bad, api.ErrArg},
		{x, -1, at(0, 1), bad, api.ErrArg},
		{x, 3, at(0, 1), ask(1, 10), api.ErrArg},
		{x, 1, at(0, 2), bad, api.ErrNoSession},
		{x, 2, at(-1, 0), bad, api.ErrNoSession},
		{x, 1, at(0, 2), ask(1, 10), api.ErrNoSession},
		{x, 0, at(0, 2), bad, api.ErrName},
		{x, 1, at(0, 1), bad, api.ErrName},
		{x, 2, at(0, 1), bad, api.ErrName},
		{x, 0, at(0, 2), ask(3, 0), api.ErrLevel},
		{x, 0, at(0, 2), ask(1, 0), api.ErrTime},
		{x, 1, at(0, 1), ask(1, 0), api.ErrTime},
		{x, 2, at(0, 1), ask(1, 301), api.ErrTime},
		{x, 1, at(0, 1), api.Request{Label: "tv", Scopes: 15, Life: 1}, api.ErrScope},
		{x, 2, at(0, 1), ask(1, 10), api.ErrLevel},
		{x, 0, at(0, 2), ask(1, 10), api.ErrFull},
		{x, 1, at(0, 1), ask(1, 10), api.ErrFull},
		{x, 2, at(0, 1), ask(2, 10), api.ErrFull},
		{y, 1, at(4, 1), ask(1, 10), api.ErrNoSession},
		{y, 1, at(4, maxBirths), ask(1, 0), api.ErrTime},
		{y, 0, api.Link{}, ask(1, 10), api.ErrBirths},
		{y, 1, at(4, maxBirths), ask(1, 10), api.ErrBirths},
		{y, 2, at(4, maxBirths), ask(2, 10), api.ErrBirths},
	} {
		if _, no := c.x.plan(c.kind, c.up, c.r); no != c.no {
			t.Errorf("Plan %d below %+v, %+v: %v, want %v", c.kind, c.up, c.r, no, c.no)
		}
	}
}

// P23.2, P23.8: a plan lays nothing; a unit is done for it just where no slot is free and nothing refuses it; and what it tells may be born.
func TestPlanUnit(t *testing.T) {
	for _, u := range setups() {
		for kind := range 3 {
			x := u.make(t)
			for again := 0; again <= maxNodes; again++ {
				if s, no := x.plan(kind, api.Link{}, ask(0, 0)); no == api.OK || s != (api.Session{}) {
					t.Fatalf("%s: %+v, %v", u.name, s, no)
				}
				up := api.Link{}
				if len(x.p.live) > 0 {
					up = linkOf(x.p.live[again%len(x.p.live)])
				}
				s, no := x.plan(kind, up, ask(x.level(kind, up), 10))
				if no != api.OK {
					break
				}
				// Planned twice it is the same: a slot is free now.
				writes := x.f.Writes()
				if other, _ := x.plan(kind, up, ask(x.level(kind, up), 10)); other != s || x.f.Writes() != writes {
					t.Fatalf("%s: %+v, planned again %+v", u.name, s, other)
				}
				x.must(x.born(s))
			}
			if n := len(x.p.live); kind == api.KLogin && n != maxNodes && x.p.births != maxBirths && x.p.clock != maxClock {
				t.Fatalf("%s: just %d live", u.name, n)
			}
		}
	}
}

// level is one that may be asked for.
func (x *pair) level(kind int, up api.Link) int {
	if s, ok := x.p.find(up); ok && kind == api.KRaised {
		return s.Level + 1
	}
	return 1
}

// change makes another session of one, by a forest.
type change func(s *api.Session, x *pair)

// fieldChanges are changes of each field, to its edges and beside what it says.
func fieldChanges() []change {
	var l []change
	number := func(put func(s *api.Session) *int, least, most int) {
		for _, n := range edgeInts(least, most) {
			l = append(l, func(s *api.Session, x *pair) { *put(s) = n })
		}
		for _, n := range []int{-1, 1} {
			l = append(l, func(s *api.Session, x *pair) { *put(s) += n })
		}
	}
	number(func(s *api.Session) *int { return &s.Slot }, 0, maxNodes-1)
	number(func(s *api.Session) *int { return &s.Birth }, 1, maxBirths)
	number(func(s *api.Session) *int { return &s.Up.Slot }, 0, maxNodes-1)
	number(func(s *api.Session) *int { return &s.Up.Birth }, 1, maxBirths)
	number(func(s *api.Session) *int { return &s.Kind }, 0, 2)
	number(func(s *api.Session) *int { return &s.Level }, 0, 2)
	number(func(s *api.Session) *int { return &s.Born }, 0, maxClock)
	number(func(s *api.Session) *int { return &s.Deadline }, 1, maxClock)
	number(func(s *api.Session) *int { return &s.Depth }, 0, maxDepth)
	for _, text := range []string{"", "a", "bob", "ann", "Ann", "a.b", "ä", strings.Repeat("a", 32), strings.Repeat("a", 33)} {
		l = append(l, func(s *api.Session, x *pair) { s.User = text }, func(s *api.Session, x *pair) { s.Label = text })
	}
	for _, set := range []api.Set{0, 1, 6, 7, 8, 15, 1 << 63, math.MaxUint64} {
		l = append(l, func(s *api.Session, x *pair) { s.Scopes = set })
	}
	return append(l, linkChanges()...)
}

// linkChanges are changes of what a session hangs below, and of what it must be then.
func linkChanges() []change {
	l := []change{
		func(s *api.Session, x *pair) { *s = api.Session{} },
		func(s *api.Session, x *pair) { s.Up = api.Link{} },
		func(s *api.Session, x *pair) { s.Up, s.Label, s.Depth = api.Link{}, "", 0 },
		func(s *api.Session, x *pair) { s.Up = linkOf(*s) },
		func(s *api.Session, x *pair) { s.Deadline = s.Born },
		func(s *api.Session, x *pair) { s.Deadline = s.Born + 1 },
		func(s *api.Session, x *pair) { s.Deadline = s.Born + 300 },
		func(s *api.Session, x *pair) { s.Deadline = s.Born + 301 },
	}
	for i := range 40 {
		l = append(l, func(s *api.Session, x *pair) {
			links := someLinks(x)
			s.Up = links[i%len(links)]
		}, func(s *api.Session, x *pair) {
			// All else as the parent asks it.
			if len(x.p.live) > 0 {
				p := x.p.live[i%len(x.p.live)]
				s.Up, s.User, s.Scopes, s.Depth, s.Deadline = linkOf(p), p.User, p.Scopes, p.Depth+1, min(p.Deadline, s.Born+300)
			}
		})
	}
	return l
}

// P23.3: sessions of all kinds, in all forests, each field changed; and some fields at once.
func TestBornEdges(t *testing.T) {
	changes := fieldChanges()
	r := rand.New(rand.NewSource(23))
	seen := map[api.Errno]int{}
	for _, u := range setups() {
		x := u.make(t)
		for _, base := range bases(x) {
			for one := range changes {
				for again := range 3 {
					s := base
					changes[one](&s, x)
					for range again {
						changes[r.Intn(len(changes))](&s, x)
					}
					no := x.born(s)
					if seen[no]++; no == api.OK {
						x = u.make(t)
					}
				}
			}
		}
	}
	for _, no := range []api.Errno{api.OK, api.ErrArg, api.ErrBirths, api.ErrNoSession, api.ErrState, api.ErrTwice} {
		if seen[no] < 100 {
			t.Errorf("%v was told just %d times", no, seen[no])
		}
	}
}

// bases are sessions of which most may be born now: of each kind, in the first free slot, and in other slots.
func bases(x *pair) []api.Session {
	var l []api.Session
	slots := []int{0, maxNodes - 1}
	if len(x.p.free) > 0 {
		slots = []int{x.p.free[0], x.p.free[len(x.p.free)/2], lastOf(x.p.free)}
	}
	for _, slot := range slots {
		s := api.Session{Slot: slot, Birth: x.p.births + 1, User: "ann", Scopes: 7, Born: x.p.clock, Deadline: min(x.p.clock+10, maxClock)}
		l = append(l, s)
		for _, p := range x.p.live {
			s.Up, s.Label, s.Depth, s.Deadline = linkOf(p), "tv", p.Depth+1, min(x.p.clock+10, p.Deadline)
			s.Kind, s.Level, s.Scopes = api.KDelegated, p.Level, p.Scopes
			l = append(l, s)
			s.Kind, s.Level = api.KRaised, p.Level+1
			l = append(l, s)
			if len(l) > 9 {
				break
			}
		}
	}
	return l
}

// P23.3: each error is told ahead of all that come behind it: all of them at once, in all ways.
func TestBornOrder(t *testing.T) {
	wrong := []struct {
		no  api.Errno
		put change
	}{
		{api.ErrArg, func(s *api.Session, x *pair) { s.User = "Ann" }},
		{api.ErrArg, func(s *api.Session, x *pair) { s.Born-- }},
		{api.ErrBirths, func(s *api.Session, x *pair) { s.Birth++ }},
		{api.ErrNoSession, func(s *api.Session, x *pair) { s.Up = x.p.ended[0] }},
		{api.ErrState, func(s *api.Session, x *pair) { s.Depth++ }},
		{api.ErrTwice, func(s *api.Session, x *pair) { s.Slot = x.p.live[0].Slot }},
	}
	x := family(t)
	p := x.p.live[1]
	for _, kind := range []int{api.KDelegated, api.KRaised} {
		for which := range 1 << len(wrong) {
			s := api.Session{Slot: 30, Birth: x.p.births + 1, Up: linkOf(p), Kind: kind, User: "ann", Label: "tv", Scopes: 7, Level: p.Level, Born: x.p.clock, Deadline: x.p.clock + 9, Depth: p.Depth + 1}
			if kind == api.KRaised {
				s.Level++
			}
			want := api.OK
			for i := len(wrong) - 1; i >= 0; i-- {
				if which>>i&1 == 1 {
					wrong[i].put(&s, x)
					want = wrong[i].no
				}
			}
			if no := x.born(s); no != want {
				t.Errorf("kind %d, wrong %b: %v, want %v", kind, which, no, want)
			}
			if want == api.OK {
				x = family(t)
			}
		}
	}
}

// P23.3: below a parent a session hangs just as P25.1 says, with each answer written out.
func TestBornParent(t *testing.T) {
	x := newPair(t)
	top := x.birth(api.KLogin, api.Link{}, api.Request{User: "ann", Scopes: 7, Level: 1, Life: 100})
	x.must(x.tick(10))
	base := api.Session{Slot: 20, Birth: 2, Up: linkOf(top), Kind: api.KDelegated, User: "ann", Label: "tv", Scopes: 7, Level: 1, Born: 10, Deadline: 100, Depth: 1}
	for i, c := range []struct {
		no  api.Errno
		put func(s *api.Session)
	}{
		{api.OK, func(s *api.Session) {}},
		{api.OK, func(s *api.Session) { s.Scopes, s.Level, s.Deadline = 0, 0, 11 }},
		{api.ErrState, func(s *api.Session) { s.Depth = 2 }},
		{api.ErrState, func(s *api.Session) { s.User = "bob" }},
		{api.ErrState, func(s *api.Session) { s.Deadline = 101 }},
		{api.ErrState, func(s *api.Session) { s.Scopes = 8 }},
		{api.ErrState, func(s *api.Session) { s.Scopes = 15 }},
		{api.ErrState, func(s *api.Session) { s.Level = 2 }},
		{api.OK, func(s *api.Session) { s.Kind, s.Level = api.KRaised, 2 }},
		{api.ErrState, func(s *api.Session) { s.Kind = api.KRaised }},
		{api.ErrState, func(s *api.Session) { s.Kind, s.Level = api.KRaised, 0 }},
		{api.ErrState, func(s *api.Session) { s.Kind, s.Level, s.Scopes = api.KRaised, 2, 15 }},
		{api.ErrNoSession, func(s *api.Session) { s.Up.Slot = 1 }},
	} {
		s := base
		c.put(&s)
		y := pairOf(t, x.p.state())
		if no := y.born(s); no != c.no {
			t.Errorf("case %d: Born %+v: %v, want %v", i, s, no, c.no)
		}
	}
}

// P23.3: a slot that is free may be any of them; the others stay free in their order.
func TestBornSlots(t *testing.T) {
	for slot := range maxNodes {
		x := newPair(t)
		x.must(x.born(api.Session{Slot: slot, Birth: 1, User: "ann", Deadline: 9}))
		if no := x.born(api.Session{Slot: slot, Birth: 2, User: "ann", Deadline: 9}); no != api.ErrTwice {
			t.Errorf("slot %d: %v", slot, no)
		}
		x.must(x.revoke(at(slot, 1)))
		if no := x.born(api.Session{Slot: slot, Birth: 2, User: "ann", Deadline: 9}); no != api.ErrTwice {
			t.Errorf("slot %d, garbage: %v", slot, no)
		}
		x.must(x.sweep(1))
		x.must(x.born(api.Session{Slot: slot, Birth: 2, User: "ann", Deadline: 9}))
		x.asked(at(slot, 1))
		x.asked(at(slot, 2))
	}
}

// P23.4, P23.6: Session and Under of all links, in all forests.
func TestLinks(t *testing.T) {
	for _, u := range setups() {
		x := u.make(t)
		for _, l := range edgeLinks(x) {
			x.asked(l)
		}
	}
}

// P23.4, P23.7, P23.9: Revoke of all links, in all forests; and again, and swept.
func TestRevoke(t *testing.T) {
	for _, u := range setups() {
		x := u.make(t)
		links := edgeLinks(x)
		for _, l := range links {
			under := x.p.under(l)
			if x.revoke(l) != api.OK {
				continue
			}
			for _, s := range under {
				if no := x.revoke(linkOf(s)); no != api.ErrNoSession {
					t.Fatalf("%s: %+v below %+v: %v", u.name, s, l, no)
				}
			}
			used := maxNodes - len(x.p.free)
			x.must(x.sweep(1))
			if maxNodes-len(x.p.free) != used-1 {
				t.Fatalf("%s: not swept: %+v", u.name, x.f.Dump())
			}
			x = u.make(t)
		}
		// And all that live, one behind the other, in one forest.
		for _, l := range links {
			x.revoke(l)
		}
		if len(x.p.live) != 0 {
			t.Fatalf("%s: %+v live", u.name, x.p.live)
		}
		x.must(x.sweep(maxBudget))
	}
}

// P23.5: ticks at the edges, in all forests.
func TestTickEdges(t *testing.T) {
	for _, u := range setups() {
		left := maxClock - u.make(t).p.clock
		for _, n := range []int{-1, 0, 1, 2, 5, 9, 10, 50, 99, 100, 101, maxTick - 1, maxTick, maxTick + 1, left - 1, left, left + 1, maxClock, math.MinInt, math.MaxInt} {
			for _, then := range []int{-1, 0, 1, maxTick, math.MaxInt} {
				x := u.make(t)
				x.tick(n)
				x.tick(then)
				x.anew()
			}
		}
	}
	x := newPair(t)
	for range maxClock / maxTick {
		x.must(x.tick(maxTick))
	}
	if no := x.tick(1); no != api.ErrTime || x.f.State().Clock != maxClock {
		t.Errorf("behind the clock's end: %v, %d", no, x.f.State().Clock)
	}
	x.must(x.tick(0))
}

// P23.5: to just before, to, and over each deadline; and over many at once.
func TestDeadlines(t *testing.T) {
	for _, u := range setups() {
		for _, s := range u.make(t).p.live {
			for beside := -1; beside <= 1; beside++ {
				x := u.make(t)
				if no := x.tick(s.Deadline - x.p.clock + beside); no != api.OK {
					continue // over the clock's end
				}
				if _, ok := x.p.find(linkOf(s)); ok != (beside < 0) {
					t.Fatalf("%s: %+v at %d: %t", u.name, s, x.p.clock, ok)
				}
				x.asked(linkOf(s))
				x.must(x.sweep(maxNodes))
				x.tick(1)
			}
		}
	}
}

// P23.5: those whose time is over are ended by their deadlines, and of one deadline by their slots; who hangs below one that was ended, isn't.
func TestTickOrder(t *testing.T) {
	login := func(slot, birth, deadline int) api.Session {
		return api.Session{Slot: slot, Birth: birth, User: "ann", Deadline: deadline}
	}
	kid := func(slot, birth, deadline int, up api.Session) api.Session {
		return api.Session{Slot: slot, Birth: birth, Up: linkOf(up), Kind: 1, User: "ann", Label: "tv", Deadline: deadline, Depth: up.Depth + 1}
	}
	one, two, three := login(5, 1, 9), login(3, 2, 9), login(8, 3, 7)
	low, high := kid(2, 4, 9, one), kid(6, 5, 9, one) // one in a slot below its parent's, one above
	four := kid(1, 6, 7, high)
	for _, c := range []struct {
		ticks   int
		garbage []int // in the order in which they were ended
		units   []int // in the order in which they are freed
	}{
		{6, nil, nil},
		{7, []int{1, 8}, []int{1, 8}},
		{8, []int{1, 8}, []int{1, 8}},
		{9, []int{1, 8, 2, 3, 5}, []int{1, 8, 2, 3, 5, 6}},
		{100, []int{1, 8, 2, 3, 5}, []int{1, 8, 2, 3, 5, 6}},
	} {
		x := pairOf(t, api.State{Births: 6, Sessions: []api.Session{one, two, three, low, high, four}})
		x.must(x.tick(c.ticks))
		d := x.f.Dump()
		var ring []int
		for i := d.Garbage; i != -1 && len(ring) < maxNodes; {
			i = d.Slots[i].Next
			if ring = append(ring, i); i == d.Garbage {
				break
			}
		}
		if !slices.Equal(ring, c.garbage) {
			t.Errorf("%d ticks: ended %v, want %v", c.ticks, ring, c.garbage)
		}
		x.must(x.sweep(maxNodes))
		free := x.f.Dump().Free[:len(c.units)]
		slices.Reverse(free)
		if !slices.Equal(free, c.units) {
			t.Errorf("%d ticks: freed %v, want %v", c.ticks, free, c.units)
		}
	}
}

// P23.5: who hung below one that was ended, and whose slot was freed, or given anew, isn't ended once more when its time is over.
func TestStaleDeadlines(t *testing.T) {
	for _, anew := range []int{0, 1, 2} {
		x := newPair(t)
		top := x.birth(api.KLogin, api.Link{}, ask(0, 100))
		kid := x.birth(api.KDelegated, linkOf(top), ask(0, 50))
		x.birth(api.KRaised, linkOf(kid), ask(1, 20))
		x.must(x.revoke(linkOf(top)))
		x.must(x.sweep(3))
		for range anew {
			x.birth(api.KLogin, api.Link{}, ask(0, 1000))
		}
		for range 12 {
			x.must(x.tick(10))
		}
		if len(x.p.live) != anew {
			t.Errorf("%d births: %+v live", anew, x.p.live)
		}
	}
}

// P23.5: sweeps at the edges, and of as many as there are, and one more.
func TestSweepEdges(t *testing.T) {
	for _, u := range setups() {
		for _, n := range []int{-1, 0, 1, 2, maxNodes - 1, maxNodes, maxNodes + 1, maxBudget, maxBudget + 1, math.MinInt, math.MaxInt} {
			x := u.make(t)
			x.sweep(n)
			x.sweep(1)
			x.sweep(n)
		}
		x := u.make(t)
		all := maxNodes - len(x.p.free) - len(x.p.live)
		for n := max(0, all-1); n <= all+1; n++ {
			x := u.make(t)
			x.must(x.sweep(n))
			if want := maxNodes - len(x.p.live) - max(0, all-n); len(x.f.Dump().Free) != want {
				t.Fatalf("%s: %d units: %d are free, want %d", u.name, n, len(x.f.Dump().Free), want)
			}
		}
		for range all + 1 {
			x.must(x.sweep(1))
		}
	}
}

// P23.1: forests of states that may be: of all that the edges come to.
func TestFrom(t *testing.T) {
	f, err := From(api.State{})
	tells(t, "From of nothing", err, api.OK)
	if d := f.Dump(); !sameDump(d, New().Dump()) || f.Writes() != 0 {
		t.Errorf("From of nothing: %+v, %d writes", d, f.Writes())
	}
	for _, u := range setups() {
		x := u.make(t)
		x.anew()
		// What is born from it goes on as from any other one.
		y := pairOf(t, x.p.state())
		for i := range maxNodes + 1 {
			if s, no := y.plan(api.KLogin, api.Link{}, ask(1, 1+i)); no == api.OK {
				y.must(y.born(s))
			}
		}
		y.tick(20)
		for _, l := range someLinks(y) {
			y.revoke(l)
		}
		y.must(y.sweep(maxNodes))
	}
}

// P23.1: forests of states that may not be, in each way.
func TestFromRefused(t *testing.T) {
	x := family(t)
	refused := func(what string, st api.State) {
		t.Helper()
		f, err := From(st)
		tells(t, what, err, api.ErrState)
		if f != nil {
			t.Errorf("%s: a forest beside the error", what)
		}
	}
	for _, c := range []struct {
		what string
		put  func(st *api.State)
	}{
		{"a clock below 0", func(st *api.State) { st.Clock = -1 }},
		{"a clock of the past", func(st *api.State) { st.Clock = 0 }},
		{"a clock behind deadlines", func(st *api.State) { st.Clock = 65 }},
		{"a clock behind its end", func(st *api.State) { *st = api.State{Clock: maxClock + 1} }},
		{"births below 0", func(st *api.State) { st.Births = -1 }},
		{"too few births", func(st *api.State) { st.Births = 1 }},
		{"too many births", func(st *api.State) { st.Births = maxBirths + 1 }},
		{"one twice", func(st *api.State) { st.Sessions = append(st.Sessions, st.Sessions[0]) }},
		{"a slot twice", func(st *api.State) { st.Sessions[1].Slot = st.Sessions[0].Slot }},
		{"not by births", func(st *api.State) { slices.Reverse(st.Sessions) }},
		{"no parent", func(st *api.State) { st.Sessions = st.Sessions[1:] }},
		{"another parent's slot", func(st *api.State) { st.Sessions[1].Up.Slot = 31 }},
		{"another parent's birth", func(st *api.State) { st.Sessions[2].Up.Birth = 1 }},
		{"a depth", func(st *api.State) { st.Sessions[2].Depth = 1 }},
		{"a user", func(st *api.State) { st.Sessions[1].User = "bob" }},
		{"no user", func(st *api.State) { st.Sessions[0].User = "" }},
		{"a deadline", func(st *api.State) { st.Sessions[1].Deadline = 1001 }},
		{"scopes", func(st *api.State) { st.Sessions[1].Scopes = 8 }},
		{"a level", func(st *api.State) { st.Sessions[1].Level = 1 }},
		{"a raised level", func(st *api.State) { st.Sessions[1].Kind = api.KRaised }},
		{"born later", func(st *api.State) { st.Sessions[1].Born = 6 }},
	} {
		st := x.p.state()
		c.put(&st)
		refused(c.what, st)
	}
	st := fill(t, maxNodes, 0).p.state()
	st.Births = maxNodes + 1
	st.Sessions = append(st.Sessions, api.Session{Slot: 3, Birth: maxNodes + 1, User: "ann", Deadline: 9})
	refused("33 sessions", st)
}

// P23.1: what lies behind the list's length is not looked at.
func TestFromSpareRoom(t *testing.T) {
	st := fill(t, maxNodes, 3).p.state()
	st.Sessions[5] = api.Session{}
	st.Sessions = st.Sessions[:5]
	pairOf(t, st).same(st)
}

// R4: what is handed out may be written over, its spare room included; what was handed in, too.
func TestOwnLists(t *testing.T) {
	st := family(t).p.state()
	x := pairOf(t, st)
	want := x.p.state()
	spoil := func(l []api.Session) {
		for i := range l[:cap(l)] {
			l[:cap(l)][i] = api.Session{Slot: 9, Birth: 9, User: "eve"}
		}
	}
	spoil(st.Sessions)
	spoil(x.f.State().Sessions)
	for range 2 {
		d := x.f.Dump()
		for i := range d.Slots[:cap(d.Slots)] {
			d.Slots[:cap(d.Slots)][i] = api.Slot{}
		}
		for i := range d.Free[:cap(d.Free)] {
			d.Free[:cap(d.Free)][i] = 7
		}
	}
	x.same("spoilt")
	if got := x.f.State(); !sameState(got, want) {
		t.Errorf("%+v, want %+v", got, want)
	}
}

// R4: no answer shares its texts with an argument, another answer, or what the forest keeps.
func TestOwnTexts(t *testing.T) {
	user, label := strings.Repeat("u", 3), strings.Repeat("l", 3)
	seen := map[*byte]string{}
	add := func(what string, texts ...string) {
		t.Helper()
		for _, s := range texts {
			if s == "" {
				continue
			}
			if was, ok := seen[unsafe.StringData(s)]; ok {
				t.Errorf("%s shares a text with %s", what, was)
			}
			seen[unsafe.StringData(s)] = what
		}
	}
	sessions := func(what string, l ...api.Session) {
		t.Helper()
		for _, s := range l {
			add(what, s.User, s.Label)
		}
	}
	f := New()
	r := api.Request{User: user, Label: label, Scopes: 1, Life: 50}
	add("the request", r.User, r.Label)
	top, _ := f.Plan(api.KLogin, api.Link{}, r)
	sessions("the first plan", top)
	f.Born(top)
	kid, _ := f.Plan(api.KDelegated, linkOf(top), r)
	sessions("the second plan", kid)
	f.Born(kid)
	r.Level = 1
	raised, _ := f.Plan(api.KRaised, linkOf(kid), r)
	sessions("the third plan", raised)
	f.Born(raised)
	for i := range 2 {
		again := " " + strconv.Itoa(i)
		sessions("State"+again, f.State().Sessions...)
		sessions("Under"+again, gone(f.Under(linkOf(top)))...)
		s, _ := f.Session(linkOf(kid))
		sessions("Session"+again, s)
		for _, s := range f.Dump().Slots {
			sessions("Dump"+again, s.S)
		}
	}
	st := f.State()
	sessions("the state", st.Sessions...)
	g, _ := From(st)
	sessions("State of another", g.State().Sessions...)
	sessions("Under of another", gone(g.Under(linkOf(top)))...)
	if len(seen) < 40 {
		t.Errorf("just %d texts", len(seen))
	}
}

// R5: Under, State and Dump tell what there was when they were got, whatever is done behind that.
func TestSnapshots(t *testing.T) {
	for _, u := range setups() {
		x := u.make(t)
		st, d := x.f.State(), x.f.Dump()
		wantState, wantDump := x.p.state(), x.p.dump()
		links := edgeLinks(x)
		var overs []func(func(api.Session) bool)
		var want [][]api.Session
		for _, l := range links {
			overs = append(overs, x.f.Under(l))
			want = append(want, x.p.under(l))
		}
		check := func() {
			t.Helper()
			for i, over := range overs {
				if got := gone(over); !slices.Equal(got, want[i]) {
					t.Fatalf("%s: Under %+v: %+v, want %+v", u.name, links[i], got, want[i])
				}
			}
			if !sameState(st, wantState) || !sameDump(d, wantDump) {
				t.Fatalf("%s: %+v, %+v", u.name, st, d)
			}
		}
		check()
		for _, l := range someLinks(x) {
			x.revoke(l)
			x.sweep(3)
			if s, no := x.plan(api.KLogin, api.Link{}, ask(2, 1)); no == api.OK {
				x.must(x.born(s))
			}
			x.tick(1)
		}
		check()
		x.sweep(maxNodes)
		check()
	}
}

// R5: Under may be left early, and gone over again, also within itself, and while what it hands out is ended.
func TestUnderAgain(t *testing.T) {
	x := fill(t, maxNodes, 31)
	over, want := x.f.Under(at(0, 1)), x.p.under(at(0, 1))
	if len(want) != maxNodes {
		t.Fatalf("just %d below", len(want))
	}
	for most := range maxNodes + 1 {
		var got []api.Session
		for s := range over {
			if len(got) == most {
				break
			}
			got = append(got, s)
		}
		if !slices.Equal(got, want[:most]) {
			t.Fatalf("up to %d: %+v", most, got)
		}
	}
	n := 0
	for s := range over {
		if n == 3 {
			if got := gone(over); !slices.Equal(got, want) {
				t.Fatalf("within itself: %+v", got)
			}
		}
		if s != want[n] {
			t.Fatalf("%d: %+v, want %+v", n, s, want[n])
		}
		x.revoke(linkOf(s))
		x.sweep(1)
		n++
	}
	if n != maxNodes || len(x.p.live) != 0 {
		t.Errorf("%d handed out, %d live", n, len(x.p.live))
	}
}

// Two forests know nothing of one another.
func TestTwoForests(t *testing.T) {
	x, y := family(t), family(t)
	for _, l := range someLinks(x) {
		x.revoke(l)
		y.same(l)
	}
	x.must(x.sweep(maxBudget))
	x.must(x.tick(100))
	y.same("the other one")
	y.birth(api.KLogin, api.Link{}, ask(0, 9))
	x.same("the other one")
}

// P23.9: however many are below, a Revoke writes few slots: each of one that has them all below it, of one amid others, and of one alone.
func TestFewWrites(t *testing.T) {
	for below := range maxNodes {
		x := fill(t, maxNodes, below)
		for _, s := range x.p.state().Sessions {
			x.revoke(linkOf(s))
		}
	}
}

// script does some steps, by chance, of a mood: how often each call is made.
func script(t *testing.T, r *rand.Rand, x *pair, mood [6]int, steps int) {
	t.Helper()
	var calls []int
	for call, often := range mood {
		for range often {
			calls = append(calls, call)
		}
	}
	changes := fieldChanges()
	for range steps {
		switch calls[r.Intn(len(calls))] {
		case 0:
			kind, up := r.Intn(3), x.someone(r)
			s, no := x.plan(kind, up, x.request(r, kind, up))
			if no == api.OK && r.Intn(8) > 0 {
				x.must(x.born(s))
			}
		case 1:
			// One that wasn't planned, in any slot.
			l := bases(x)
			s := l[r.Intn(len(l))]
			s.Slot = r.Intn(maxNodes)
			if r.Intn(3) == 0 {
				changes[r.Intn(len(changes))](&s, x)
			}
			x.born(s)
		case 2:
			x.revoke(x.someone(r))
		case 3:
			x.tick(r.Intn(1+r.Intn(30)) - r.Intn(60)/59)
		case 4:
			x.sweep(r.Intn(1+r.Intn(8)) - r.Intn(60)/59)
		case 5:
			x.asked(x.someone(r))
		}
	}
	x.anew()
}

// someone is mostly one that lives; now and then one that was ended, or that never was.
func (x *pair) someone(r *rand.Rand) api.Link {
	n := r.Intn(10)
	switch {
	case n < 8 && len(x.p.live) > 0:
		return linkOf(x.p.live[r.Intn(len(x.p.live))])
	case n < 9 && len(x.p.ended) > 0:
		return x.p.ended[r.Intn(len(x.p.ended))]
	}
	return at(r.Intn(maxNodes+2)-1, r.Intn(x.p.births+2))
}

// request is mostly one that is granted.
func (x *pair) request(r *rand.Rand, kind int, up api.Link) api.Request {
	a := api.Request{User: []string{"ann", "bob"}[r.Intn(2)], Label: []string{"tv", "phone"}[r.Intn(2)], Scopes: api.Set(r.Uint64()), Level: r.Intn(3), Life: 1 + r.Intn(1+r.Intn(200))}
	if s, ok := x.p.find(up); ok && r.Intn(10) > 0 {
		a.Scopes &= s.Scopes
		if kind == api.KRaised {
			a.Level = s.Level + 1
		}
	}
	switch r.Intn(40) {
	case 0:
		a.User, a.Label = "Ann", "Tv"
	case 1:
		a.Level = 3
	case 2:
		a.Life = 0
	}
	return a
}

// P23.2 to P23.10: scripts of all moods, held against the plain forest step by step: what was ended lives at no later time.
func TestScripts(t *testing.T) {
	moods := [][6]int{
		{10, 2, 2, 3, 2, 1},
		{20, 1, 1, 1, 0, 1}, // grows full; what garbage there is goes for plans alone
		{10, 0, 4, 0, 0, 0},
		{10, 10, 3, 1, 3, 0},
		{10, 0, 1, 6, 1, 1},
		{20, 5, 3, 1, 20, 1},
	}
	begins := []api.State{
		{}, {}, {},
		{Births: maxBirths - 40},
		{Clock: maxClock - 200, Births: 9},
	}
	r := rand.New(rand.NewSource(2323))
	for range 16 {
		for _, mood := range moods {
			for _, st := range begins {
				script(t, r, pairOf(t, st), mood, 20+r.Intn(150))
			}
		}
	}
}

// P23.7: what Revoke ended isn't there again when its slots are full of others, of which some hang below one another as it did.
func TestEndedIsEnded(t *testing.T) {
	for _, below := range []int{0, 3, 6, 31} {
		x := fill(t, maxNodes, below)
		for range 3 {
			for _, s := range x.p.state().Sessions[:1+below/2] {
				x.revoke(linkOf(s))
			}
			for len(x.p.live) < maxNodes {
				up := api.Link{}
				kind := api.KLogin
				if n := len(x.p.live); n > 0 && x.p.live[n-1].Depth < maxDepth {
					kind, up = api.KDelegated, linkOf(x.p.live[n-1])
				}
				x.birth(kind, up, ask(1, 100))
			}
			for _, l := range x.p.ended {
				x.asked(l)
			}
		}
	}
}
