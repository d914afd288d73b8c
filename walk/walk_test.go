package walk

import (
	"math"
	"math/rand"
	"slices"
	"strconv"
	"testing"

	"lineage/api"
	"lineage/arena"
)

// The plain walk: word by word as the chapter says it, over what the slots hold.

type plain [32]api.Slot

func (p *plain) holds(l api.Link) bool {
	if l.Slot < 0 || l.Slot > 31 {
		return false
	}
	if l.Birth <= 0 {
		return false
	}
	s := p[l.Slot]
	return s.Used && !s.Dead && s.S.Birth == l.Birth
}

// up goes up from l, where one has gone up n times already.
func (p *plain) up(l api.Link, n int) (bool, int, []int) {
	if !p.holds(l) {
		return false, n, nil
	}
	above := p[l.Slot].S.Up
	if above.Birth == 0 {
		return true, n, []int{l.Slot}
	}
	if n == 6 {
		return false, n, nil
	}
	lives, n, path := p.up(above, n+1)
	if !lives {
		return false, n, nil
	}
	return true, n, append([]int{l.Slot}, path...)
}

// ground is an arena and what its slots hold: what is asked of the one is asked of the other.
type ground struct {
	a    *arena.Arena
	p    plain
	free []int // which slots are free, the first one first: no call may change it
}

func newGround() *ground {
	g := &ground{a: arena.New()}
	for i := range 32 {
		g.p[i] = api.Slot{Kids: -1, Prev: -1, Next: -1}
		g.free = append(g.free, i)
	}
	return g
}

// hold writes a slot.
func (g *ground) hold(t *testing.T, i int, s api.Slot) {
	t.Helper()
	if err := g.a.Put(i, s); err != nil {
		t.Fatal(err)
	}
	g.p[i] = s
}

// bend changes a slot.
func (g *ground) bend(t *testing.T, i int, change func(s *api.Slot)) {
	t.Helper()
	s := g.p[i]
	change(&s)
	g.hold(t, i, s)
}

// ask asks both calls, twice, holds their answers against the plain walk, and all that can be seen of the arena against what it was.
func (g *ground) ask(t *testing.T, l api.Link) (bool, int, []int) {
	t.Helper()
	wantLives, wantUps, wantPath := g.p.up(l, 0)
	was := g.a.Writes()
	for range 2 {
		lives, ups := Lives(g.a, l)
		if lives != wantLives || ups != wantUps {
			t.Fatalf("Lives %+v: %t %d, want %t %d", l, lives, ups, wantLives, wantUps)
		}
		if path := Path(g.a, l); !slices.Equal(path, wantPath) {
			t.Fatalf("Path %+v: %v, want %v", l, path, wantPath)
		}
	}
	if g.a.Writes() != was {
		t.Fatalf("%+v: %d writes, want none", l, g.a.Writes()-was)
	}
	g.same(t, l)
	return wantLives, wantUps, wantPath
}

// same holds all that slots hold, and which are free, against what it was.
func (g *ground) same(t *testing.T, l api.Link) {
	t.Helper()
	for i := range 32 {
		if got, err := g.a.Get(i); err != nil || got != g.p[i] {
			t.Fatalf("%+v: slot %d: %+v %v, want %+v", l, i, got, err, g.p[i])
		}
	}
	if got := slices.Collect(g.a.Frees()); !slices.Equal(got, g.free) {
		t.Fatalf("%+v: free: %v, want %v", l, got, g.free)
	}
}

// is asks both calls, and checks answers that are written out.
func (g *ground) is(t *testing.T, l api.Link, lives bool, ups int, path ...int) {
	t.Helper()
	gotLives, gotUps, gotPath := g.ask(t, l)
	if gotLives != lives || gotUps != ups || !slices.Equal(gotPath, path) {
		t.Fatalf("%+v: %t %d %v, want %t %d %v", l, gotLives, gotUps, gotPath, lives, ups, path)
	}
}

func link(slot, birth int) api.Link { return api.Link{Slot: slot, Birth: birth} }

// full is a slot that holds a session, with something in each field that says nothing of whether it lives.
func full(i, birth int, up api.Link) api.Slot {
	n := strconv.Itoa(i)
	return api.Slot{Used: true, Kids: 40 - i, Prev: -i, Next: 3 * i, S: api.Session{
		Slot: 31 - i, Birth: birth, Up: up, Kind: i % 3, User: "user" + n, Label: "label" + n,
		Scopes: api.Set(1) << i, Level: 2 - i%3, Born: -i, Deadline: -i, Depth: 60 - i,
	}}
}

// three are the slots 0, 1, 2 of the chapter's examples.
func three(t *testing.T) *ground {
	t.Helper()
	g := newGround()
	g.hold(t, 0, full(0, 5, api.Link{}))
	g.hold(t, 1, full(1, 6, link(0, 5)))
	g.hold(t, 2, full(2, 9, link(1, 6)))
	return g
}

// row is slots of a line, the highest one first, each below the one ahead of it; the birth number of slot i is 100 + i.
func row(t *testing.T, slots ...int) *ground {
	t.Helper()
	g := newGround()
	up := link(math.MinInt, 0)
	for _, i := range slots {
		g.hold(t, i, full(i, 100+i, up))
		up = own(i)
	}
	return g
}

// own is the link of a slot that row has made.
func own(i int) api.Link { return link(i, 100+i) }

// numbers are the edges of what may be a slot, and others beside them.
func numbers() []int {
	return []int{math.MinInt, math.MinInt + 1, -1 << 32, -32, -31, -2, -1, 0, 1, 2, 30, 31, 32, 33, 63, 64, 1 << 32, 1<<32 + 1, math.MaxInt - 1, math.MaxInt}
}

// births are the edges of birth numbers.
func births() []int {
	return []int{math.MinInt, math.MinInt + 1, -1 << 32, -2, -1, 0, 1, 2, 5, 1 << 20, 1<<20 + 1, 1 << 32, 1<<32 + 1, math.MaxInt - 1, math.MaxInt}
}

// harms are the three ways in which a slot holds a session no more.
func harms() []func(s *api.Slot) {
	return []func(s *api.Slot){
		func(s *api.Slot) { s.Used = false },
		func(s *api.Slot) { s.Dead = true },
		func(s *api.Slot) { s.S.Birth++ },
	}
}

// The chapter's examples, answers written out.
func TestExamples(t *testing.T) {
	g := three(t)
	g.is(t, link(0, 5), true, 0, 0)
	g.is(t, link(1, 6), true, 1, 1, 0)
	g.is(t, link(2, 9), true, 2, 2, 1, 0)
	for _, l := range []api.Link{link(2, 6), link(3, 9), link(32, 9), link(0, 0), link(2, 8)} {
		g.is(t, l, false, 0)
	}
	g.bend(t, 0, func(s *api.Slot) { s.Dead = true })
	g.is(t, link(2, 9), false, 2)
	g.is(t, link(0, 5), false, 0)
	g = three(t)
	g.bend(t, 1, func(s *api.Slot) { s.S.Birth = 7 })
	g.is(t, link(2, 9), false, 1)
	g = three(t)
	g.bend(t, 0, func(s *api.Slot) { s.S.Up = link(2, 9) })
	g.is(t, link(2, 9), false, 6)
}

// P18.1, P18.2: of a new arena nothing lives; and a bare slot doesn't hold the birth 0 that stands in it.
func TestNew(t *testing.T) {
	g := newGround()
	for _, i := range numbers() {
		for _, birth := range births() {
			g.is(t, link(i, birth), false, 0)
		}
	}
}

// P18.1: every number as a link's Slot and as its Birth, with all slots held by one birth number after the other: only slots are held, and only births from 1 on.
func TestHolds(t *testing.T) {
	for _, birth := range births() {
		g := newGround()
		for i := range 32 {
			g.hold(t, i, full(i, birth, api.Link{}))
		}
		for _, i := range numbers() {
			for _, asked := range births() {
				if i >= 0 && i <= 31 && asked == birth && birth >= 1 {
					g.is(t, link(i, asked), true, 0, i)
				} else {
					g.is(t, link(i, asked), false, 0)
				}
			}
		}
	}
}

// P18.1: each of Used, not Dead and the birth number is asked, by itself and together with the others.
func TestHoldsByAll(t *testing.T) {
	for _, i := range []int{0, 1, 17, 30, 31} {
		for _, used := range []bool{true, false} {
			for _, dead := range []bool{true, false} {
				for _, birth := range []int{4, 5, 6, -5, 5 + 1<<32} {
					g := newGround()
					g.hold(t, i, full(i, birth, api.Link{}))
					g.bend(t, i, func(s *api.Slot) { s.Used, s.Dead = used, dead })
					if used && !dead && birth == 5 {
						g.is(t, link(i, 5), true, 0, i)
					} else {
						g.is(t, link(i, 5), false, 0)
					}
				}
			}
		}
	}
}

// P18.1: all that a slot holds beside Used, Dead, Birth and Up says nothing: neither S.Slot, nor a deadline that is over, nor a depth.
func TestOtherFields(t *testing.T) {
	for _, n := range numbers() {
		g := three(t)
		for i := range 3 {
			g.bend(t, i, func(s *api.Slot) {
				s.Kids, s.Prev, s.Next = n, n, n
				s.S.Slot, s.S.Kind, s.S.Level, s.S.Born, s.S.Deadline, s.S.Depth = n, n, n, n, n, n
				s.S.Scopes, s.S.User, s.S.Label = api.Set(uint64(n)), "", "\xff"
			})
		}
		g.is(t, link(0, 5), true, 0, 0)
		g.is(t, link(1, 6), true, 1, 1, 0)
		g.is(t, link(2, 9), true, 2, 2, 1, 0)
	}
}

// P18.1: whether a slot is free says nothing: one lives in slots that are taken and in free ones.
func TestFreeSaysNothing(t *testing.T) {
	g := three(t)
	for _, i := range []int{0, 2, 7} {
		if err := g.a.Place(i); err != nil {
			t.Fatal(err)
		}
		g.free = slices.DeleteFunc(g.free, func(f int) bool { return f == i })
	}
	g.is(t, link(2, 9), true, 2, 2, 1, 0)
	g.is(t, link(7, 1), false, 0)
	if err := g.a.Free(0); err != nil {
		t.Fatal(err)
	}
	g.p[0], g.free = api.Slot{Kids: -1, Prev: -1, Next: -1}, append([]int{0}, g.free...)
	g.is(t, link(2, 9), false, 2)
	g.hold(t, 0, full(0, 5, api.Link{}))
	g.is(t, link(2, 9), true, 2, 2, 1, 0)
}

// P18.1: an Up whose Birth is 0 ends the walk, whatever its Slot is: a slot, its own, none.
func TestTop(t *testing.T) {
	for _, where := range numbers() {
		g := three(t)
		g.bend(t, 0, func(s *api.Slot) { s.S.Up = link(where, 0) })
		g.is(t, link(0, 5), true, 0, 0)
		g.is(t, link(2, 9), true, 2, 2, 1, 0)
		g.bend(t, 2, func(s *api.Slot) { s.S.Up = link(where, 0) })
		g.is(t, link(2, 9), true, 0, 2)
		g.is(t, link(1, 6), true, 1, 1, 0)
	}
}

// P18.1: an Up whose Birth is less than 0 is gone up by, and holds nothing, even where the slot has that birth number.
func TestUpBelowZero(t *testing.T) {
	for _, birth := range births() {
		if birth >= 0 {
			continue
		}
		for _, where := range numbers() {
			g := three(t)
			g.hold(t, 31, full(31, birth, api.Link{}))
			g.hold(t, 30, full(30, birth, api.Link{}))
			g.bend(t, 0, func(s *api.Slot) { s.S.Up = link(where, birth) })
			g.is(t, link(0, 5), false, 1)
			g.is(t, link(1, 6), false, 2)
			g.is(t, link(2, 9), false, 3)
		}
	}
}

// P18.1: links that lead nowhere: to no slot, to one that is bare, not Used, Dead, of another birth; one has gone up to them.
func TestNowhere(t *testing.T) {
	for _, where := range numbers() {
		for _, birth := range births() {
			if birth == 0 || where == 0 && birth == 5 || where == 1 && birth == 6 || where == 2 && birth == 9 {
				continue
			}
			g := three(t)
			g.hold(t, 30, api.Slot{S: api.Session{Birth: birth}})
			g.hold(t, 31, api.Slot{Used: true, Dead: true, S: api.Session{Birth: birth}})
			for i, ups := range []int{3, 2, 1} {
				g.bend(t, i, func(s *api.Slot) { s.S.Up = link(where, birth) })
				g.is(t, link(2, 9), false, ups)
			}
		}
	}
}

// P18.1, P18.2, P18.4: lines of every depth, up to all slots: the sixth time up is the last one.
func TestDeep(t *testing.T) {
	orders := [][]int{nil, nil, rand.New(rand.NewSource(18)).Perm(32)}
	for i := range 32 {
		orders[0] = append(orders[0], i)
		orders[1] = append(orders[1], 31-i)
	}
	for _, order := range orders {
		g := row(t, order...)
		for depth, i := range order {
			if depth > 6 {
				g.is(t, own(i), false, 6)
				continue
			}
			want := slices.Clone(order[:depth+1])
			slices.Reverse(want)
			g.is(t, own(i), true, depth, want...)
		}
	}
}

// P18.1: at the sixth time up that slot is asked still, and one that is wrong there tells six too; what is beyond is not.
func TestDeepEnds(t *testing.T) {
	line := []int{20, 3, 31, 0, 12, 7, 25, 9}
	for depth := 1; depth < 8; depth++ {
		for at := range depth + 1 {
			for _, harm := range harms() {
				g := row(t, line[:depth+1]...)
				g.bend(t, line[at], harm)
				g.is(t, own(line[depth]), false, min(depth-at, 6))
			}
		}
	}
	for _, up := range []api.Link{link(-1, 1), link(32, 1), link(0, -1), link(31, math.MinInt), link(5, 105)} {
		g := row(t, line[:7]...)
		g.bend(t, line[0], func(s *api.Slot) { s.S.Up = up })
		g.is(t, own(line[6]), false, 6)
		g.is(t, own(line[5]), false, 6)
		g.is(t, own(line[4]), false, 5)
	}
}

// P18.1, P18.4: circles of one slot, of two, of all, and lines that lead into one: one goes up six times, and it doesn't live.
func TestCircles(t *testing.T) {
	for n := 1; n <= 32; n++ {
		order := rand.New(rand.NewSource(int64(n))).Perm(32)
		g := row(t, order...)
		g.bend(t, order[0], func(s *api.Slot) { s.S.Up = own(order[n-1]) })
		for _, i := range order {
			g.is(t, own(i), false, 6)
		}
		g.bend(t, order[0], func(s *api.Slot) { s.S.Up = link(order[n-1], 0) })
		g.is(t, own(order[0]), true, 0, order[0])
	}
}

// A circle in which a link remembers another birth number ends there.
func TestCircleBroken(t *testing.T) {
	g := row(t, 4)
	g.bend(t, 4, func(s *api.Slot) { s.S.Up = link(4, 103) })
	g.is(t, own(4), false, 1)
	g = row(t, 4, 8)
	g.bend(t, 4, func(s *api.Slot) { s.S.Up = link(8, 107) })
	g.is(t, own(8), false, 2)
	g.is(t, own(4), false, 1)
}

// P18.2: a Path is a list of its own: writing on it, its spare room too, changes no other one and no later one.
func TestPathIsNew(t *testing.T) {
	g := row(t, 20, 3, 31, 0, 12, 7, 25)
	want := []int{25, 7, 12, 0, 31, 3, 20}
	one, two := Path(g.a, own(25)), Path(g.a, own(25))
	one = one[:cap(one)]
	for i := range one {
		one[i] = -7
	}
	if !slices.Equal(two, want) {
		t.Fatalf("%v, want %v", two, want)
	}
	g.is(t, own(25), true, 6, want...)
	g.bend(t, 3, func(s *api.Slot) { s.Dead = true })
	if !slices.Equal(two, want) {
		t.Fatalf("behind a harm: %v, want %v", two, want)
	}
	g.is(t, own(25), false, 5)
}

// P18.2: none, where it doesn't live, however far one has gone up.
func TestPathOfNone(t *testing.T) {
	g := row(t, 0, 1, 2, 3, 4, 5, 6, 7)
	g.bend(t, 0, func(s *api.Slot) { s.Dead = true })
	for _, l := range []api.Link{own(0), own(1), own(6), own(7), link(0, 0), link(-1, 1), link(32, 132)} {
		if path := Path(g.a, l); len(path) != 0 {
			t.Errorf("%+v: %v, want none", l, path)
		}
	}
}

// P18.3: as soon as one slot of a Path is harmed it doesn't live, nor do those below that slot; those above it do. Mended, all live again.
func TestHarms(t *testing.T) {
	line := []int{20, 3, 31, 0, 12, 7, 25}
	for at, harmed := range line {
		for _, harm := range harms() {
			g := row(t, line...)
			was := g.p[harmed]
			g.bend(t, harmed, harm)
			for depth, i := range line {
				if depth < at {
					path := slices.Clone(line[:depth+1])
					slices.Reverse(path)
					g.is(t, own(i), true, depth, path...)
				} else {
					g.is(t, own(i), false, depth-at)
				}
			}
			g.hold(t, harmed, was)
			g.is(t, own(25), true, 6, 25, 7, 12, 0, 31, 3, 20)
		}
	}
}

// P18.3: what other slots hold says nothing: whatever is put there, slots that claim to hang amid the line too.
func TestOtherSlots(t *testing.T) {
	line := []int{20, 3, 31, 0, 12, 7, 25}
	r := rand.New(rand.NewSource(183))
	g := row(t, line...)
	for range 2000 {
		i := r.Intn(32)
		if slices.Contains(line, i) {
			continue
		}
		g.hold(t, i, wild(r))
		g.is(t, own(25), true, 6, 25, 7, 12, 0, 31, 3, 20)
		g.is(t, own(0), true, 3, 0, 31, 3, 20)
		g.is(t, own(20), true, 0, 20)
	}
}

// wild is a slot that holds anything, of few birth numbers, so that links lead to sessions often.
func wild(r *rand.Rand) api.Slot {
	s := full(r.Intn(32), r.Intn(4), link(r.Intn(34)-1, r.Intn(5)-1))
	s.Used, s.Dead = r.Intn(8) > 0, r.Intn(8) == 0
	return s
}

// P18.1 to P18.4: arenas that hold anything, against the plain walk and what follows.
func TestWild(t *testing.T) {
	r := rand.New(rand.NewSource(1818))
	lived := map[int]int{}
	for range 300 {
		g := newGround()
		for i := range 32 {
			g.hold(t, i, lively(r))
		}
		for i := -1; i <= 32; i++ {
			for birth := -1; birth <= 4; birth++ {
				l := link(i, birth)
				lives, ups, path := g.ask(t, l)
				if lives {
					lived[ups]++
					g.follows(t, r, l, ups, path)
				}
			}
		}
	}
	for ups := range 7 {
		if lived[ups] == 0 {
			t.Errorf("none has gone up %d times and lives: the test is too tame", ups)
		}
	}
}

// lively is a slot like wild's, but nearly always one that holds the birth 1, below another one, so that long lines live.
func lively(r *rand.Rand) api.Slot {
	if r.Intn(12) == 0 {
		return wild(r)
	}
	up := link(r.Intn(32), 1)
	if r.Intn(4) == 0 {
		up = link(r.Intn(40)-4, 0)
	}
	return full(r.Intn(32), 1, up)
}

// follows checks of a session that lives what P18.3 and P18.4 say of its Path.
func (g *ground) follows(t *testing.T, r *rand.Rand, l api.Link, ups int, path []int) {
	t.Helper()
	if ups < 0 || ups > 6 || len(path) != ups+1 || path[0] != l.Slot {
		t.Fatalf("%+v: %d times up, %v", l, ups, path)
	}
	for at, i := range path {
		if slices.Contains(path[:at], i) {
			t.Fatalf("%+v: %d twice: %v", l, i, path)
		}
		g.is(t, link(i, g.p[i].S.Birth), true, ups-at, path[at:]...)
	}
	at := r.Intn(len(path))
	was := g.p[path[at]]
	for _, harm := range harms() {
		g.bend(t, path[at], harm)
		g.is(t, l, false, at)
		g.hold(t, path[at], was)
	}
}

// R1: every arena is asked, one that isn't there too: it has no slots.
func TestNoArena(t *testing.T) {
	for _, i := range numbers() {
		for _, birth := range births() {
			lives, ups := Lives(nil, link(i, birth))
			if path := Path(nil, link(i, birth)); lives || ups != 0 || len(path) != 0 {
				t.Fatalf("%d/%d: %t %d %v", i, birth, lives, ups, path)
			}
		}
	}
}

// R4, R5: two arenas know nothing of one another, and calls may come in any order.
func TestTwoArenas(t *testing.T) {
	one, two := three(t), three(t)
	two.bend(t, 1, func(s *api.Slot) { s.Dead = true })
	one.is(t, link(2, 9), true, 2, 2, 1, 0)
	two.is(t, link(2, 9), false, 1)
	one.is(t, link(2, 9), true, 2, 2, 1, 0)
}
