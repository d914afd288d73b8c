package forest

import (
	"errors"
	"slices"
	"testing"

	"lineage/api"
	"lineage/event"
	"lineage/grant"
)

// The limits, as the document's table has them.
const (
	maxNodes    = 32
	maxDepth    = 6
	maxBirths   = 1048576
	maxTick     = 1073741824
	maxClock    = 1099511627776
	maxBudget   = 65536
	revokeSlots = 10
)

// tells checks an error's number, against all numbers; no error of this layer has a place.
func tells(t *testing.T, what any, err error, no api.Errno) {
	t.Helper()
	for n := api.OK; n <= api.ErrState+1; n++ {
		want := n == no && no != api.OK
		if errors.Is(err, n) != want {
			t.Fatalf("%+v: errors.Is(%v, %d): want just %d", what, err, n, no)
		}
	}
	if no == api.OK && err != nil {
		t.Fatalf("%+v: %v: want no error", what, err)
	}
	var f api.Fault
	if errors.As(err, &f) {
		t.Fatalf("%+v: a place %+v: want none", what, f)
	}
}

// The plain forest: who lives is a list; which slots are free, and which hang in which ring, are rows of slots. What links there are in the slots is told by these rows.

type plain struct {
	clock, births int
	live          []api.Session // by their births
	ended         []api.Link    // all that lived once
	held          [maxNodes]api.Slot
	free          []int
	roots         []int
	garbage       []int
	kids          [maxNodes][]int
}

func linkOf(s api.Session) api.Link { return api.Link{Slot: s.Slot, Birth: s.Birth} }

// plainOf is the plain forest of a state that may be.
func plainOf(st api.State) *plain {
	p := &plain{clock: st.Clock, births: st.Births}
	for i := range maxNodes {
		p.free = append(p.free, i)
	}
	for _, s := range st.Sessions {
		p.lay(s)
	}
	return p
}

func (p *plain) lay(s api.Session) {
	p.free = slices.Delete(p.free, slices.Index(p.free, s.Slot), slices.Index(p.free, s.Slot)+1)
	p.held[s.Slot] = api.Slot{Used: true, S: s}
	p.kids[s.Slot] = nil
	p.live = append(p.live, s)
	if s.Up.Birth == 0 {
		p.roots = append(p.roots, s.Slot)
	} else {
		p.kids[s.Up.Slot] = append(p.kids[s.Up.Slot], s.Slot)
	}
}

func (p *plain) find(l api.Link) (api.Session, bool) {
	for _, s := range p.live {
		if linkOf(s) == l {
			return s, true
		}
	}
	return api.Session{}, false
}

// end ends a session that lives: its slot goes over to the garbage, and nobody below it lives any more.
func (p *plain) end(s api.Session) {
	from := &p.roots
	if s.Up.Birth != 0 {
		from = &p.kids[s.Up.Slot]
	}
	*from = slices.DeleteFunc(*from, func(i int) bool { return i == s.Slot })
	p.garbage = append(p.garbage, s.Slot)
	p.held[s.Slot].Dead = true
	p.bury(linkOf(s))
}

func (p *plain) bury(l api.Link) {
	for _, s := range slices.Clone(p.live) {
		if linkOf(s) == l {
			p.live = slices.DeleteFunc(p.live, func(s api.Session) bool { return linkOf(s) == l })
			p.ended = append(p.ended, l)
		} else if s.Up == l {
			p.bury(linkOf(s))
		}
	}
}

func (p *plain) unit() bool {
	if len(p.garbage) == 0 {
		return false
	}
	i := p.garbage[0]
	p.garbage = append(slices.Clone(p.garbage[1:]), p.kids[i]...)
	p.held[i], p.kids[i] = api.Slot{}, nil
	p.free = append([]int{i}, p.free...)
	return true
}

// plan is what Plan should answer; whether it should do a unit of work is told, too.
func (p *plain) plan(kind int, up api.Link, r api.Request) (s api.Session, no api.Errno, unit bool) {
	s, err := p.granted(kind, up, r, len(p.live) == maxNodes)
	if err != nil {
		errors.As(err, &no)
		return api.Session{}, no, false
	}
	if len(p.free) == 0 {
		unit = p.unit()
	}
	s.Slot = p.free[0]
	return s, api.OK, unit
}

func (p *plain) granted(kind int, up api.Link, r api.Request, full bool) (api.Session, error) {
	if kind != 0 && kind != 1 && kind != 2 {
		return api.Session{}, api.ErrArg
	}
	above, ok := p.find(up)
	switch {
	case kind == 0:
		return grant.Login(r, p.clock, p.births, full)
	case !ok:
		return api.Session{}, api.ErrNoSession
	case kind == 1:
		return grant.Child(above, r, p.clock, p.births, full)
	}
	return grant.Raised(above, r, p.clock, p.births, full)
}

func (p *plain) born(s api.Session) api.Errno {
	_, err := event.Encode(api.Event{Kind: api.EBirth, Born: s})
	up, ok := p.find(s.Up)
	switch {
	case err != nil || s.Born != p.clock:
		return api.ErrArg
	case s.Birth != p.births+1:
		return api.ErrBirths
	case s.Up != api.Link{} && !ok:
		return api.ErrNoSession
	case s.Up != api.Link{} && !hangs(s, up):
		return api.ErrState
	case !slices.Contains(p.free, s.Slot):
		return api.ErrTwice
	}
	p.lay(s)
	p.births++
	return api.OK
}

// hangs: what P25.1 says of a session and its parent.
func hangs(s, up api.Session) bool {
	if s.Depth != up.Depth+1 || s.User != up.User || s.Deadline > up.Deadline || s.Scopes|up.Scopes != up.Scopes {
		return false
	}
	if s.Kind == 2 {
		return s.Level > up.Level
	}
	return s.Level <= up.Level
}

func (p *plain) revoke(l api.Link) api.Errno {
	s, ok := p.find(l)
	if !ok {
		return api.ErrNoSession
	}
	p.end(s)
	return api.OK
}

func (p *plain) tick(n int) api.Errno {
	if n < 0 || n > maxTick || p.clock+n > maxClock {
		return api.ErrTime
	}
	p.clock += n
	// The earliest deadline first, and of one deadline the least slot.
	for len(p.live) > 0 {
		first, is := api.Session{}, false
		for _, s := range p.live {
			if s.Deadline <= p.clock && (!is || s.Deadline < first.Deadline || s.Deadline == first.Deadline && s.Slot < first.Slot) {
				first, is = s, true
			}
		}
		if !is {
			break
		}
		p.end(first)
	}
	return api.OK
}

func (p *plain) sweep(n int) api.Errno {
	if n < 0 || n > maxBudget {
		return api.ErrBudget
	}
	for range min(n, maxNodes) {
		p.unit()
	}
	return api.OK
}

func (p *plain) under(l api.Link) []api.Session {
	s, ok := p.find(l)
	if !ok {
		return nil
	}
	out := []api.Session{s}
	for _, i := range p.kids[s.Slot] {
		out = append(out, p.under(linkOf(p.held[i].S))...)
	}
	return out
}

func (p *plain) state() api.State {
	return api.State{Clock: p.clock, Births: p.births, Sessions: slices.Clone(p.live)}
}

func lastOf(l []int) int {
	if len(l) == 0 {
		return -1
	}
	return l[len(l)-1]
}

func (p *plain) dump() api.Dump {
	d := api.Dump{Clock: p.clock, Births: p.births, Slots: slices.Clone(p.held[:]), Free: slices.Clone(p.free), Garbage: lastOf(p.garbage), Roots: lastOf(p.roots)}
	for i := range d.Slots {
		d.Slots[i].Kids, d.Slots[i].Prev, d.Slots[i].Next = lastOf(p.kids[i]), -1, -1
	}
	for _, l := range append([][]int{p.roots, p.garbage}, p.kids[:]...) {
		for at, i := range l {
			d.Slots[i].Next = l[(at+1)%len(l)]
			d.Slots[l[(at+1)%len(l)]].Prev = i
		}
	}
	return d
}

// pair is a forest and the plain one, of which each call is asked.
type pair struct {
	t *testing.T
	f *Forest
	p *plain
}

func newPair(t *testing.T) *pair { return &pair{t, New(), plainOf(api.State{})} }

// pairOf is a pair of a state that may be.
func pairOf(t *testing.T, st api.State) *pair {
	t.Helper()
	f, err := From(st)
	tells(t, st, err, api.OK)
	return &pair{t, f, plainOf(st)}
}

func sameState(a, b api.State) bool {
	return a.Clock == b.Clock && a.Births == b.Births && slices.Equal(a.Sessions, b.Sessions)
}

func sameDump(a, b api.Dump) bool {
	return a.Clock == b.Clock && a.Births == b.Births && slices.Equal(a.Slots, b.Slots) &&
		slices.Equal(a.Free, b.Free) && a.Garbage == b.Garbage && a.Roots == b.Roots
}

// same checks all that the forest tells against the plain one; that what was ended lives no more; and that each slot is used or free.
func (x *pair) same(what any) {
	x.t.Helper()
	writes := x.f.Writes()
	d := x.f.Dump()
	if want := x.p.dump(); !sameDump(d, want) {
		x.t.Fatalf("%+v: Dump:\n%+v, want\n%+v", what, d, want)
	}
	if st, want := x.f.State(), x.p.state(); !sameState(st, want) {
		x.t.Fatalf("%+v: State:\n%+v, want\n%+v", what, st, want)
	}
	for i, s := range d.Slots {
		if s.Used == slices.Contains(d.Free, i) {
			x.t.Fatalf("%+v: slot %d is free and used, or neither: %+v", what, i, d)
		}
	}
	for _, s := range x.p.live {
		got, err := x.f.Session(linkOf(s))
		tells(x.t, what, err, api.OK)
		if got != s {
			x.t.Fatalf("%+v: Session: %+v, want %+v", what, got, s)
		}
	}
	for _, l := range x.p.ended {
		if _, err := x.f.Session(l); !errors.Is(err, api.ErrNoSession) {
			x.t.Fatalf("%+v: %+v was ended, and lives: %v", what, l, err)
		}
	}
	if x.f.Writes() != writes || writes != x.f.slots.Writes() {
		x.t.Fatalf("%+v: Writes: %d, want %d", what, x.f.Writes(), writes)
	}
}

// wrote checks how often slots were written since.
func (x *pair) wrote(what any, since, least, most int) {
	x.t.Helper()
	if n := x.f.Writes() - since; n < least || n > most {
		x.t.Fatalf("%+v: %d writes of slots: want %d to %d", what, n, least, most)
	}
}

func (x *pair) plan(kind int, up api.Link, r api.Request) (api.Session, api.Errno) {
	x.t.Helper()
	what := []any{"Plan", kind, up, r, x.p.clock, x.p.births}
	live, writes := len(x.p.live), x.f.Writes()
	_, otherwise := x.p.granted(kind, up, r, false)
	want, no, unit := x.p.plan(kind, up, r)
	got, err := x.f.Plan(kind, up, r)
	tells(x.t, what, err, no)
	if got != want {
		x.t.Fatalf("%+v: %+v, want %+v", what, got, want)
	}
	if otherwise == nil && (no == api.ErrFull) != (live == maxNodes) {
		x.t.Fatalf("%+v: %v, where %d live", what, err, live)
	}
	if unit {
		x.wrote(what, writes, 1, 8)
	} else {
		x.wrote(what, writes, 0, 0)
	}
	x.same(what)
	return got, no
}

// held checks what a call that changes the forest has told, and how often it has written slots.
func (x *pair) held(what any, err error, no api.Errno, since, least, most int) {
	x.t.Helper()
	tells(x.t, what, err, no)
	if no != api.OK {
		least, most = 0, 0
	}
	x.wrote(what, since, least, most)
	x.same(what)
}

func (x *pair) born(s api.Session) api.Errno {
	x.t.Helper()
	writes := x.f.Writes()
	no := x.p.born(s)
	x.held([]any{"Born", s}, x.f.Born(s), no, writes, 1, 9)
	return no
}

func (x *pair) revoke(l api.Link) api.Errno {
	x.t.Helper()
	writes, free := x.f.Writes(), x.f.Dump().Free
	no := x.p.revoke(l)
	x.held([]any{"Revoke", l}, x.f.Revoke(l), no, writes, 1, revokeSlots)
	if got := x.f.Dump().Free; !slices.Equal(got, free) {
		x.t.Fatalf("Revoke %+v: free %v, want %v", l, got, free)
	}
	return no
}

func (x *pair) tick(n int) api.Errno {
	x.t.Helper()
	writes, live := x.f.Writes(), len(x.p.live)
	no := x.p.tick(n)
	x.held([]any{"Tick", n}, x.f.Tick(n), no, writes, 0, (live-len(x.p.live))*revokeSlots)
	return no
}

func (x *pair) sweep(n int) api.Errno {
	x.t.Helper()
	writes, free := x.f.Writes(), len(x.p.free)
	no := x.p.sweep(n)
	freed := len(x.p.free) - free
	x.held([]any{"Sweep", n}, x.f.Sweep(n), no, writes, freed, 8*freed)
	return no
}

// asked checks Session and Under of a link, which change nothing.
func (x *pair) asked(l api.Link) {
	x.t.Helper()
	want, ok := x.p.find(l)
	no := api.OK
	if !ok {
		no = api.ErrNoSession
	}
	got, err := x.f.Session(l)
	tells(x.t, l, err, no)
	if got != want {
		x.t.Fatalf("Session %+v: %+v, want %+v", l, got, want)
	}
	if got, want := gone(x.f.Under(l)), x.p.under(l); !slices.Equal(got, want) {
		x.t.Fatalf("Under %+v: %+v, want %+v", l, got, want)
	}
	x.same(l)
}

// gone goes over sessions, no further than there can be some.
func gone(over func(func(api.Session) bool)) []api.Session {
	var out []api.Session
	for s := range over {
		if out = append(out, s); len(out) > maxNodes {
			break
		}
	}
	return out
}

// anew checks that the forest of its state has that state, and no garbage.
func (x *pair) anew() {
	x.t.Helper()
	st := x.f.State()
	y := pairOf(x.t, st)
	y.same("anew")
	if d := y.f.Dump(); d.Garbage != -1 || len(d.Free) != maxNodes-len(st.Sessions) {
		x.t.Fatalf("anew of %+v: garbage: %+v", st, d)
	}
	if got := y.f.State(); !sameState(got, st) {
		x.t.Fatalf("anew: %+v, want %+v", got, st)
	}
}
