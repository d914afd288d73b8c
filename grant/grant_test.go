package grant

import (
	"errors"
	"fmt"
	"math"
	"math/rand"
	"strings"
	"testing"
	"unsafe"

	"lineage/api"
)

// The limits, as the document's table has them.
const (
	maxBirths = 1048576
	maxDepth  = 6
	maxLife   = 1073741824
	maxClock  = 1099511627776
	stepUp    = 300
)

// tells checks an error's number, against all numbers; no error of this layer has a place.
func tells(t *testing.T, what any, err error, no api.Errno) {
	t.Helper()
	for n := api.OK; n <= api.ErrState+1; n++ {
		want := n == no && no != api.OK
		if errors.Is(err, n) != want {
			t.Fatalf("%+v: errors.Is(%v, %d): want just %d", what, err, n, no)
		}
	}
	if no == api.OK && err != nil {
		t.Fatalf("%+v: %v: want no error", what, err)
	}
	var f api.Fault
	if errors.As(err, &f) {
		t.Fatalf("%+v: a place %+v: want none", what, f)
	}
}

// call is one of the three, by the kind of what it answers, with what it is handed.
type call struct {
	kind        int
	p           api.Session // not handed to Login
	r           api.Request
	now, births int
	full        bool
}

func (c call) ask() (api.Session, error) {
	switch c.kind {
	case api.KLogin:
		return Login(c.r, c.now, c.births, c.full)
	case api.KDelegated:
		return Child(c.p, c.r, c.now, c.births, c.full)
	}
	return Raised(c.p, c.r, c.now, c.births, c.full)
}

// turned is the call with these turns, one behind the other.
func (c call) turned(l ...turn) call {
	for _, f := range l {
		f(&c)
	}
	return c
}

// turn makes another call of one.
type turn func(c *call)

var kinds = []int{api.KLogin, api.KDelegated, api.KRaised}

// ordinary is the call of a kind that the chapter's examples begin with.
func ordinary(kind int) call {
	c := call{
		kind: kind,
		p:    api.Session{Slot: 1, Birth: 3, User: "ann", Scopes: 7, Level: 1, Deadline: 100},
		r:    api.Request{User: "ann", Label: "tablet", Scopes: 5, Level: 2, Life: 1000},
		now:  40, births: 9,
	}
	if kind == api.KRaised {
		c.r.Label, c.r.Life = "pay", 20
	}
	return c
}

// The plain grant: what the chapter says of each of the three, one thing behind the other, without the layers below.

func plainName(s string) bool {
	for i := range len(s) {
		small := s[i] >= 'a' && s[i] <= 'z'
		if !small && (i == 0 || !strings.ContainsRune("0123456789-_", rune(s[i]))) {
			return false
		}
	}
	return len(s) >= 1 && len(s) <= 32
}

func plainLevel(l int) bool { return l == 0 || l == 1 || l == 2 }

func plainUntil(now, life, most int) (int, bool) {
	if now < 0 || now > maxClock || most < 0 || most > maxClock || life < 1 || life > maxLife {
		return 0, false
	}
	d := now + life
	if d > most {
		d = most
	}
	return d, d > now
}

// plain is what the call should answer.
func (c call) plain() (api.Session, api.Errno) {
	switch c.kind {
	case api.KLogin:
		return c.plainLogin()
	case api.KDelegated:
		return c.plainChild()
	}
	return c.plainRaised()
}

func (c call) plainLogin() (api.Session, api.Errno) {
	d, inTime := plainUntil(c.now, c.r.Life, maxClock)
	switch {
	case !plainName(c.r.User):
		return api.Session{}, api.ErrName
	case !plainLevel(c.r.Level):
		return api.Session{}, api.ErrLevel
	case !inTime:
		return api.Session{}, api.ErrTime
	case c.births < 0 || c.births >= maxBirths:
		return api.Session{}, api.ErrBirths
	case c.full:
		return api.Session{}, api.ErrFull
	}
	return api.Session{Birth: c.births + 1, Kind: 0, User: c.r.User, Scopes: c.r.Scopes, Level: c.r.Level, Born: c.now, Deadline: d}, api.OK
}

func (c call) plainChild() (api.Session, api.Errno) {
	d, inTime := plainUntil(c.now, c.r.Life, c.p.Deadline)
	switch {
	case !plainName(c.r.Label):
		return api.Session{}, api.ErrName
	case !inTime:
		return api.Session{}, api.ErrTime
	case c.p.Depth < 0 || c.p.Depth >= maxDepth:
		return api.Session{}, api.ErrDeep
	case c.r.Scopes|c.p.Scopes != c.p.Scopes:
		return api.Session{}, api.ErrScope
	case c.births < 0 || c.births >= maxBirths:
		return api.Session{}, api.ErrBirths
	case c.full:
		return api.Session{}, api.ErrFull
	}
	return c.plainBelow(1, c.r.Scopes, c.p.Level, d), api.OK
}

func (c call) plainRaised() (api.Session, api.Errno) {
	d, inTime := plainUntil(c.now, c.r.Life, c.p.Deadline)
	switch {
	case !plainName(c.r.Label):
		return api.Session{}, api.ErrName
	case c.r.Life < 1 || c.r.Life > stepUp || !inTime:
		return api.Session{}, api.ErrTime
	case c.p.Depth < 0 || c.p.Depth >= maxDepth:
		return api.Session{}, api.ErrDeep
	case !plainLevel(c.p.Level) || !plainLevel(c.r.Level) || c.r.Level <= c.p.Level:
		return api.Session{}, api.ErrLevel
	case c.births < 0 || c.births >= maxBirths:
		return api.Session{}, api.ErrBirths
	case c.full:
		return api.Session{}, api.ErrFull
	}
	return c.plainBelow(2, c.p.Scopes, c.r.Level, d), api.OK
}

func (c call) plainBelow(kind int, scopes api.Set, level, deadline int) api.Session {
	return api.Session{
		Birth: c.births + 1, Up: api.Link{Slot: c.p.Slot, Birth: c.p.Birth}, Kind: kind,
		User: c.p.User, Label: c.r.Label, Scopes: scopes, Level: level,
		Born: c.now, Deadline: deadline, Depth: c.p.Depth + 1,
	}
}

// held checks a call against the plain one, all fields of what it answers, and tells what it answered.
func (c call) held(t *testing.T) (api.Session, api.Errno) {
	t.Helper()
	want, no := c.plain()
	got, err := c.ask()
	tells(t, c, err, no)
	if got != want {
		t.Fatalf("%+v: %+v, want %+v", c, got, want)
	}
	return got, no
}

// The edges.

func counts() []int { return []int{-1, 0, maxBirths - 1, maxBirths, math.MinInt, math.MaxInt} }

func nows() []int {
	return []int{-1, 0, 1, maxClock - stepUp, maxClock - 1, maxClock, maxClock + 1, math.MinInt, math.MaxInt}
}

func lives() []int {
	return []int{-1, 0, 1, 2, stepUp - 1, stepUp, stepUp + 1, maxLife - 1, maxLife, maxLife + 1, math.MinInt, math.MaxInt}
}

// deadlines are some of a parent's, and those beside the call's own clock and the end of its life.
func deadlines(c call) []int {
	end := c.now + c.r.Life
	return []int{-1, 0, 1, c.now - 1, c.now, c.now + 1, end - 1, end, end + 1, maxClock - 1, maxClock, maxClock + 1, math.MinInt, math.MaxInt}
}

func depths() []int {
	return []int{-1, 0, 1, maxDepth - 2, maxDepth - 1, maxDepth, math.MinInt, math.MaxInt}
}

func levels() []int { return []int{-1, 0, 1, 2, 3, math.MinInt, math.MaxInt} }

func anyNumbers() []int {
	return []int{-1, 0, 1, 31, 32, maxBirths, maxBirths + 1, math.MinInt, math.MaxInt}
}

// scopes are some sets, and those beside the parent's own: one more, one fewer.
func scopes(p api.Set) []api.Set {
	return []api.Set{0, 1, 5, 7, 8, 1 << 63, 1<<63 | 5, 5 << 40, ^api.Set(0), ^api.Set(0) >> 1, p, p &^ 1, p | 1<<63, p & (p - 1), p | p + 1, ^p}
}

// texts are some that are names, and some that aren't.
func texts() []string {
	return []string{
		"", "a", "ann", "z-9_", "tv-1", strings.Repeat("a", 32), strings.Repeat("a", 33), strings.Repeat("a", 4096),
		"Ann", "1a", "-", "_a", "aN", "a b", "a.b", "a\x00", "a\n", "ä", "aä", "a\xff", "a{", "`a", "a/", "a:", "*", " ann", "ann ",
	}
}

// edges are turns to all edges of all that a call is handed.
func edges() []turn {
	l := []turn{func(c *call) { c.full = true }, func(c *call) { c.full = false }}
	l = append(l, along(counts(), func(c *call, n int) { c.births = n })...)
	l = append(l, along(nows(), func(c *call, n int) { c.now = n })...)
	l = append(l, along(lives(), func(c *call, n int) { c.r.Life = n })...)
	for i := range deadlines(call{}) {
		l = append(l, func(c *call) { c.p.Deadline = deadlines(*c)[i] })
	}
	l = append(l, along(depths(), func(c *call, n int) { c.p.Depth = n })...)
	l = append(l, along(levels(), func(c *call, n int) { c.p.Level = n })...)
	l = append(l, along(levels(), func(c *call, n int) { c.r.Level = n })...)
	for i := range scopes(0) {
		l = append(l, func(c *call) { c.p.Scopes = scopes(c.p.Scopes)[i] }, func(c *call) { c.r.Scopes = scopes(c.p.Scopes)[i] })
	}
	l = append(l, along(texts(), func(c *call, s string) { c.r.User = s })...)
	l = append(l, along(texts(), func(c *call, s string) { c.r.Label = s })...)
	return append(l, parentEdges()...)
}

// parentEdges are of what a parent says that none of the three refuses a birth for.
func parentEdges() []turn {
	l := along(anyNumbers(), func(c *call, n int) { c.p.Slot = n })
	l = append(l, along(anyNumbers(), func(c *call, n int) { c.p.Birth = n })...)
	return append(l, along(texts(), func(c *call, s string) { c.p.User = s })...)
}

// unread are of what a parent says that changes nothing.
func unread() []turn {
	l := along(anyNumbers(), func(c *call, n int) { c.p.Born = n })
	l = append(l, along(anyNumbers(), func(c *call, n int) { c.p.Kind = n })...)
	l = append(l, along(anyNumbers(), func(c *call, n int) { c.p.Up = api.Link{Slot: n, Birth: n} })...)
	return append(l, along(texts(), func(c *call, s string) { c.p.Label = s })...)
}

// along are turns to each of some values.
func along[T any](l []T, put func(c *call, v T)) []turn {
	var out []turn
	for _, v := range l {
		out = append(out, func(c *call) { put(c, v) })
	}
	return out
}

// someCalls are the ordinary ones with each two edges, and some with more, of which many answer sessions.
func someCalls() []call {
	var out []call
	all := edges()
	for _, kind := range kinds {
		for _, one := range all {
			for _, two := range all {
				out = append(out, ordinary(kind).turned(one, two))
			}
		}
	}
	r := rand.New(rand.NewSource(22))
	for range 100000 {
		c := ordinary(kinds[r.Intn(3)])
		for range r.Intn(12) {
			c = c.turned(all[r.Intn(len(all))])
		}
		out = append(out, c)
	}
	return append(out, bornCalls(r, 30000)...)
}

// bornCalls are calls that aren't refused, of all kinds, with numbers from all of what may be.
func bornCalls(r *rand.Rand, count int) []call {
	var out []call
	for range count {
		c := ordinary(kinds[r.Intn(3)])
		c.now = r.Intn(1 << r.Intn(40))
		c.births = r.Intn(1 << r.Intn(20))
		c.r.Life = 1 + r.Intn(1<<r.Intn(30))
		c.p.Deadline = min(c.now+1+r.Intn(1<<r.Intn(40)), maxClock)
		c.p.Slot, c.p.Birth = int(r.Uint64()), int(r.Uint64())
		c.p.Depth = r.Intn(maxDepth)
		c.p.Scopes = api.Set(r.Uint64())
		c.r.Scopes = c.p.Scopes & api.Set(r.Uint64())
		c.p.Level, c.r.Level = r.Intn(3), r.Intn(3)
		if c.kind == api.KRaised {
			c.r.Life = 1 + r.Intn(stepUp)
			c.p.Level = r.Intn(2)
			c.r.Level = c.p.Level + 1 + r.Intn(2-c.p.Level)
		}
		out = append(out, c)
	}
	return out
}

// answering are those of some calls that answer sessions, with what they answer.
func answering(t *testing.T, do func(c call, s api.Session)) {
	t.Helper()
	seen := map[int]int{}
	for _, c := range someCalls() {
		if s, no := c.held(t); no == api.OK {
			seen[c.kind]++
			do(c, s)
		}
	}
	for _, kind := range kinds {
		if seen[kind] < 1000 {
			t.Errorf("kind %d: just %d sessions were answered", kind, seen[kind])
		}
	}
}

// The chapter's examples, with their answers written out.
func TestExamples(t *testing.T) {
	below := api.Link{Slot: 1, Birth: 3}
	for _, x := range []struct {
		kind int
		to   turn
		want api.Session
		no   api.Errno
	}{
		{0, func(c *call) {}, api.Session{Birth: 10, User: "ann", Scopes: 5, Level: 2, Born: 40, Deadline: 1040}, 0},
		{0, func(c *call) { c.r.User = "Ann" }, api.Session{}, api.ErrName},
		{0, func(c *call) { c.r.Level = 3 }, api.Session{}, api.ErrLevel},
		{0, func(c *call) { c.r.Life = 0 }, api.Session{}, api.ErrTime},
		{0, func(c *call) { c.r.Life = maxLife + 1 }, api.Session{}, api.ErrTime},
		{1, func(c *call) {}, api.Session{Birth: 10, Up: below, Kind: 1, User: "ann", Label: "tablet", Scopes: 5, Level: 1, Born: 40, Deadline: 100, Depth: 1}, 0},
		{1, func(c *call) { c.r.Scopes = 8 }, api.Session{}, api.ErrScope},
		{1, func(c *call) { c.r.Life = 0 }, api.Session{}, api.ErrTime},
		{1, func(c *call) { c.r.Label = "" }, api.Session{}, api.ErrName},
		{1, func(c *call) { c.p.Depth = 6 }, api.Session{}, api.ErrDeep},
		{1, func(c *call) { c.p.Deadline = 40 }, api.Session{}, api.ErrTime},
		{2, func(c *call) {}, api.Session{Birth: 10, Up: below, Kind: 2, User: "ann", Label: "pay", Scopes: 7, Level: 2, Born: 40, Deadline: 60, Depth: 1}, 0},
		{2, func(c *call) { c.r.Level = 1 }, api.Session{}, api.ErrLevel},
		{2, func(c *call) { c.r.Life = 301 }, api.Session{}, api.ErrTime},
		{2, func(c *call) { c.r.Life = 300 }, api.Session{Birth: 10, Up: below, Kind: 2, User: "ann", Label: "pay", Scopes: 7, Level: 2, Born: 40, Deadline: 100, Depth: 1}, 0},
		{1, func(c *call) { c.births = maxBirths }, api.Session{}, api.ErrBirths},
		{1, func(c *call) { c.full = true }, api.Session{}, api.ErrFull},
		{1, func(c *call) { c.births, c.full = maxBirths, true }, api.Session{}, api.ErrBirths},
		{1, func(c *call) { c.r.Scopes, c.full = 8, true }, api.Session{}, api.ErrScope},
	} {
		c := ordinary(x.kind).turned(x.to)
		got, err := c.ask()
		tells(t, c, err, x.no)
		if got != x.want {
			t.Errorf("%+v: %+v, want %+v", c, got, x.want)
		}
	}
}

// P22.1 to P22.3: the first and the last ones that may be, with their answers written out.
func TestLastOnes(t *testing.T) {
	for _, x := range []struct {
		kind            int
		to              turn
		birth, deadline int
		no              api.Errno
	}{
		{0, func(c *call) { c.births, c.now = 0, 0 }, 1, 1000, 0},
		{0, func(c *call) { c.births, c.now = maxBirths-1, maxClock-1 }, maxBirths, maxClock, 0},
		{0, func(c *call) { c.now = maxClock }, 0, 0, api.ErrTime},
		{0, func(c *call) { c.r.Life, c.now = maxLife, 0 }, 10, maxLife, 0},
		{0, func(c *call) { c.r.Life, c.r.Level = 1, 0 }, 10, 41, 0},
		{0, func(c *call) { c.p.Deadline, c.p.Depth = 0, maxDepth }, 10, 1040, 0},
		{1, func(c *call) { c.p.Depth, c.r.Scopes = maxDepth-1, 7 }, 10, 100, 0},
		{1, func(c *call) { c.r.Life = 59 }, 10, 99, 0},
		{1, func(c *call) { c.r.Life = 60 }, 10, 100, 0},
		{1, func(c *call) { c.r.Life = 61 }, 10, 100, 0},
		{1, func(c *call) { c.p.Deadline = 41 }, 10, 41, 0},
		{1, func(c *call) { c.r.Life, c.p.Deadline = maxLife, maxClock }, 10, 40 + maxLife, 0},
		{1, func(c *call) { c.p.Deadline = maxClock + 1 }, 0, 0, api.ErrTime},
		{1, func(c *call) { c.r.Scopes, c.p.Level = 0, math.MaxInt }, 10, 100, 0},
		{1, func(c *call) { c.p.Scopes, c.r.Scopes = ^api.Set(0), ^api.Set(0) }, 10, 100, 0},
		{1, func(c *call) { c.r.Scopes = 7 | 1<<63 }, 0, 0, api.ErrScope},
		{2, func(c *call) { c.r.Life, c.p.Deadline = 300, 1000 }, 10, 340, 0},
		{2, func(c *call) { c.r.Life, c.p.Deadline = 300, 340 }, 10, 340, 0},
		{2, func(c *call) { c.r.Life, c.p.Deadline = 300, 339 }, 10, 339, 0},
		{2, func(c *call) { c.r.Life, c.p.Deadline = 301, 41 }, 0, 0, api.ErrTime},
		{2, func(c *call) { c.r.Life = 1 }, 10, 41, 0},
		{2, func(c *call) { c.p.Level, c.r.Level = 0, 1 }, 10, 60, 0},
		{2, func(c *call) { c.p.Level, c.r.Level = 0, 2 }, 10, 60, 0},
		{2, func(c *call) { c.p.Level, c.r.Level = 2, 3 }, 0, 0, api.ErrLevel},
		{2, func(c *call) { c.p.Level, c.r.Level = -1, 0 }, 0, 0, api.ErrLevel},
		{2, func(c *call) { c.p.Level, c.r.Level = 2, 2 }, 0, 0, api.ErrLevel},
		{2, func(c *call) { c.p.Level, c.r.Level = 2, 1 }, 0, 0, api.ErrLevel},
	} {
		c := ordinary(x.kind).turned(x.to)
		got, err := c.ask()
		tells(t, c, err, x.no)
		if got.Birth != x.birth || got.Deadline != x.deadline {
			t.Errorf("%+v: birth %d, until %d; want %d, %d", c, got.Birth, got.Deadline, x.birth, x.deadline)
		}
		c.held(t)
	}
}

// P22.1 to P22.3: each two edges at once, and some with more, against the plain grant.
func TestEdges(t *testing.T) {
	answering(t, func(call, api.Session) {})
}

// P22.1 to P22.3: a clock, a life and a parent's deadline, all edges of all three at once.
func TestTimes(t *testing.T) {
	for _, kind := range kinds {
		for _, now := range append(nows(), 40) {
			for _, life := range append(lives(), 20, 1000) {
				c := ordinary(kind)
				c.now, c.r.Life = now, life
				c.held(t)
				for _, c.p.Deadline = range deadlines(c) {
					c.held(t)
				}
			}
		}
	}
}

// P22.2, P22.3: all levels of both, all depths at once; P22.2: all sets of four scopes within all of these.
func TestLevelsAndScopes(t *testing.T) {
	for _, kind := range kinds {
		c := ordinary(kind)
		for _, c.p.Level = range levels() {
			for _, c.r.Level = range levels() {
				for _, c.p.Depth = range depths() {
					c.held(t)
				}
			}
		}
		for _, at := range []int{0, 30, 60} {
			c := ordinary(kind)
			for all := range api.Set(256) {
				c.p.Scopes, c.r.Scopes = all&15<<at, all>>4<<at
				c.held(t)
			}
		}
	}
}

// fault is an error, and what makes it one that applies.
type fault struct {
	no   api.Errno
	ways []turn
}

// faults are all that apply to a kind of call, in the chapter's order.
func faults(kind int) []fault {
	user := fault{api.ErrName, along([]string{"", "Ann", "a.b", strings.Repeat("a", 33)}, func(c *call, s string) { c.r.User = s })}
	label := fault{api.ErrName, along([]string{"", "Pay", "a.b", strings.Repeat("a", 33)}, func(c *call, s string) { c.r.Label = s })}
	noLevel := fault{api.ErrLevel, along([]int{-1, 3, math.MinInt, math.MaxInt}, func(c *call, n int) { c.r.Level = n })}
	noStep := fault{api.ErrLevel, append(along([]int{-1, 2, 3, math.MinInt}, func(c *call, n int) { c.p.Level = n }), noLevel.ways...)}
	time := fault{api.ErrTime, along([]int{-1, 0, maxLife + 1, math.MinInt, math.MaxInt}, func(c *call, n int) { c.r.Life = n })}
	time.ways = append(time.ways, along([]int{-1, maxClock, maxClock + 1, math.MinInt, math.MaxInt}, func(c *call, n int) { c.now = n })...)
	if kind != api.KLogin {
		time.ways = append(time.ways, along([]int{-1, 0, 39, 40, maxClock + 1, math.MinInt, math.MaxInt}, func(c *call, n int) { c.p.Deadline = n })...)
	}
	if kind == api.KRaised {
		time.ways = append(time.ways, func(c *call) { c.r.Life = stepUp + 1 })
	}
	deep := fault{api.ErrDeep, along([]int{-1, maxDepth, math.MinInt, math.MaxInt}, func(c *call, n int) { c.p.Depth = n })}
	wide := fault{api.ErrScope, along([]api.Set{8, 15, 1 << 63, ^api.Set(0)}, func(c *call, s api.Set) { c.r.Scopes = s })}
	births := fault{api.ErrBirths, along([]int{-1, maxBirths, math.MinInt, math.MaxInt}, func(c *call, n int) { c.births = n })}
	full := fault{api.ErrFull, []turn{func(c *call) { c.full = true }}}
	switch kind {
	case api.KLogin:
		return []fault{user, noLevel, time, births, full}
	case api.KDelegated:
		return []fault{label, time, deep, wide, births, full}
	}
	return []fault{label, time, deep, noStep, births, full}
}

// P22.1 to P22.3: each error is told ahead of all that are named behind it, each two of them, at once, in all ways; and of more than two, up to all of them, the first.
func TestOrder(t *testing.T) {
	r := rand.New(rand.NewSource(22))
	for _, kind := range kinds {
		l := faults(kind)
		for i, one := range l {
			for _, w := range one.ways {
				refuses(t, ordinary(kind).turned(w), one.no)
				for _, two := range l[i+1:] {
					for _, v := range two.ways {
						refuses(t, ordinary(kind).turned(w, v), one.no)
						refuses(t, ordinary(kind).turned(v, w), one.no)
					}
				}
			}
		}
		for some := 1; some < 1<<len(l); some++ {
			for range 30 {
				c, no := ordinary(kind), api.OK
				for i := len(l) - 1; i >= 0; i-- {
					if some>>i&1 != 0 {
						c, no = c.turned(l[i].ways[r.Intn(len(l[i].ways))]), l[i].no
					}
				}
				refuses(t, c, no)
			}
		}
	}
}

// refuses checks that a call answers just this error, and beside it the empty session.
func refuses(t *testing.T, c call, no api.Errno) {
	t.Helper()
	s, err := c.ask()
	tells(t, c, err, no)
	if s != (api.Session{}) {
		t.Fatalf("%+v: %v, and beside it %+v", c, err, s)
	}
}

// P22.1 to P22.3: what isn't looked at changes nothing, whether a session is answered or an error is.
func TestNotLookedAt(t *testing.T) {
	user := along(texts(), func(c *call, s string) { c.r.User = s })
	label := along(texts(), func(c *call, s string) { c.r.Label = s })
	level := along(levels(), func(c *call, n int) { c.r.Level = n })
	var scope []turn
	for i := range scopes(0) {
		scope = append(scope, func(c *call) { c.r.Scopes = scopes(c.p.Scopes)[i] })
	}
	for kind, l := range map[int][][]turn{
		api.KLogin:     {label},
		api.KDelegated: {user, level, unread()},
		api.KRaised:    {user, scope, unread()},
	} {
		for _, first := range append(edges(), func(*call) {}) {
			c := ordinary(kind).turned(first)
			want, wantErr := c.ask()
			for _, some := range l {
				for _, f := range some {
					if got, err := c.turned(f).ask(); got != want || err != wantErr {
						t.Fatalf("%+v: %+v, %v; %+v: %+v, %v", c, want, wantErr, c.turned(f), got, err)
					}
				}
			}
		}
	}
}

// P22.2, P22.3: a parent says whatever it says: its slot, its birth and its user are taken as they are.
func TestParentAsItIs(t *testing.T) {
	for _, kind := range kinds[1:] {
		for _, f := range parentEdges() {
			c := ordinary(kind).turned(f)
			s, no := c.held(t)
			if no != api.OK || s.Up != (api.Link{Slot: c.p.Slot, Birth: c.p.Birth}) || s.User != c.p.User {
				t.Errorf("%+v: %+v, %v", c, s, no)
			}
		}
	}
}

// P22.4: what Child and Raised answer is narrower.
func TestNarrower(t *testing.T) {
	answering(t, func(c call, s api.Session) {
		if c.kind == api.KLogin {
			return
		}
		if s.Scopes&^c.p.Scopes != 0 || s.Depth != c.p.Depth+1 || s.User != c.p.User {
			t.Fatalf("%+v: %+v: its scopes, its depth, or its user", c, s)
		}
		if s.Deadline > c.p.Deadline || s.Deadline <= c.now || s.Deadline-c.now > c.r.Life {
			t.Fatalf("%+v: %+v: its deadline", c, s)
		}
		raised := c.kind == api.KRaised
		if s.Level > c.p.Level != raised || s.Level < c.p.Level || raised && s.Deadline-c.now > stepUp {
			t.Fatalf("%+v: %+v: its level, or its deadline", c, s)
		}
	})
}

// P22.5: where a session is answered one is of each shorter life, too, with a deadline that isn't later, and else the same.
func TestShorterLife(t *testing.T) {
	r := rand.New(rand.NewSource(5))
	answering(t, func(c call, s api.Session) {
		most := c.r.Life
		for _, life := range []int{1, 2, most / 2, most - 1, s.Deadline - c.now, 1 + r.Intn(most), 1 + r.Intn(min(most, 400))} {
			if life < 1 || life > most {
				continue
			}
			c.r.Life = life
			got, err := c.ask()
			tells(t, c, err, api.OK)
			if got.Deadline != min(c.now+life, s.Deadline) {
				t.Fatalf("%+v: %+v; of a longer life %+v", c, got, s)
			}
			if got.Deadline = s.Deadline; got != s {
				t.Fatalf("%+v: %+v; of a longer life %+v", c, got, s)
			}
		}
	})
}

// P22.5: each of a step up's lives, and of a delegation's as many.
func TestEachLife(t *testing.T) {
	for _, kind := range kinds {
		for _, deadline := range []int{41, 100, 339, 340, 341} {
			c := ordinary(kind)
			c.p.Deadline = deadline
			for c.r.Life = range stepUp + 2 {
				_, no := c.held(t)
				may := c.r.Life >= 1 && (kind != api.KRaised || c.r.Life <= stepUp)
				if may != (no == api.OK) {
					t.Fatalf("%+v: %v", c, no)
				}
			}
		}
	}
}

// P22.5: where Child answers a session, it does so of each of fewer scopes, too.
func TestFewerScopes(t *testing.T) {
	r := rand.New(rand.NewSource(5))
	answering(t, func(c call, s api.Session) {
		if c.kind != api.KDelegated {
			return
		}
		all := c.r.Scopes
		for _, c.r.Scopes = range []api.Set{0, all & (all - 1), all & 1, all & (1 << 63), all & api.Set(r.Uint64()), all & api.Set(r.Uint64()&r.Uint64())} {
			got, err := c.ask()
			tells(t, c, err, api.OK)
			if got.Scopes != c.r.Scopes {
				t.Fatalf("%+v: %+v", c, got)
			}
			if got.Scopes = all; got != s {
				t.Fatalf("%+v: %+v; of more scopes %+v", c, got, s)
			}
		}
	})
}

// P22.5: an error other than ErrFull and ErrBirths is the same whatever births and full are; and nothing but these two comes of them.
func TestWhateverBirthsAndFull(t *testing.T) {
	check := func(c call) {
		_, no := c.held(t)
		for _, c.births = range append(counts(), 9) {
			for _, c.full = range []bool{false, true} {
				_, then := c.held(t)
				want := no
				switch other := no != api.OK && no != api.ErrBirths && no != api.ErrFull; {
				case other:
				case c.births < 0 || c.births >= maxBirths:
					want = api.ErrBirths
				case c.full:
					want = api.ErrFull
				default:
					want = api.OK
				}
				if then != want {
					t.Fatalf("%+v: %v, want %v; ahead of that %v", c, then, want, no)
				}
			}
		}
	}
	for _, kind := range kinds {
		for _, one := range edges() {
			check(ordinary(kind).turned(one))
		}
		for _, f := range faults(kind) {
			for _, w := range f.ways {
				check(ordinary(kind).turned(w))
			}
		}
	}
}

// R4: texts that are answered share no memory, with one another or with what was handed in.
func TestNewMemory(t *testing.T) {
	for _, kind := range kinds {
		c := ordinary(kind)
		name := strings.Repeat("ann", 3)
		c.p.User, c.r.User, c.r.Label = name, name, name
		seen := map[*byte]string{unsafe.StringData(name): "what was handed in"}
		for i := range 3 {
			s, _ := c.held(t)
			for what, text := range map[string]string{"user": s.User, "label": s.Label} {
				at := unsafe.StringData(text)
				if was, again := seen[at]; again && text != "" {
					t.Errorf("kind %d: the %s of answer %d has the memory of %s", kind, what, i, was)
				}
				seen[at] = fmt.Sprintf("the %s of answer %d", what, i)
			}
		}
	}
}

// R5: an answer hangs on the arguments alone, whatever was asked before.
func TestSameAgain(t *testing.T) {
	r := rand.New(rand.NewSource(55))
	l := someCalls()
	for range 20000 {
		l[r.Intn(len(l))].held(t)
	}
}
