package sweep

import (
	"errors"
	"iter"
	"math"
	"math/rand"
	"slices"
	"strconv"
	"testing"

	"lineage/api"
	"lineage/arena"
	"lineage/tree"
)

// tells checks an error's number, against all numbers; ErrState has the place at, no other error has one.
func tells(t *testing.T, what string, err error, no api.Errno, at int) {
	t.Helper()
	for n := api.OK; n <= api.ErrState+1; n++ {
		want := n == no && no != api.OK
		if errors.Is(err, n) != want {
			t.Fatalf("%s: errors.Is(%v, %d): want just %d", what, err, n, no)
		}
	}
	if no == api.OK && err != nil {
		t.Fatalf("%s: %v: want no error", what, err)
	}
	var f api.Fault
	switch told := errors.As(err, &f); {
	case no != api.ErrState && told:
		t.Fatalf("%s: a place %+v: want none", what, f)
	case no == api.ErrState && (!told || f != api.Fault{No: no, At: at}):
		t.Fatalf("%s: %t, a place %+v: want %d", what, told, f, at)
	}
}

// The plain garbage: what each slot holds, which are free, and the ring's last one, changed word by word as the chapters 15, 16 and 19 say it.

type plain struct {
	slots [32]api.Slot
	free  []int // the first one first
	last  int
}

// answer is an error's number and, for ErrState, its place.
type answer struct {
	no api.Errno
	at int
}

func slot(i int) bool { return 0 <= i && i <= 31 }

func (p *plain) well(i int) bool {
	s := &p.slots
	if !slot(s[i].Prev) || !slot(s[i].Next) {
		return false
	}
	return s[s[i].Prev].Next == i && s[s[i].Next].Prev == i
}

func (p *plain) push(last, i int) (int, answer) {
	s := &p.slots
	if last == -1 {
		s[i].Prev = i
		s[i].Next = i
		return i, answer{}
	}
	if !p.well(last) {
		return 0, answer{api.ErrState, last}
	}
	f := s[last].Next
	if i == last || i == f {
		return 0, answer{no: api.ErrTwice}
	}
	s[i].Prev = last
	s[i].Next = f
	s[last].Next = i
	s[f].Prev = i
	return i, answer{}
}

func (p *plain) splice(one, two int) (int, answer) {
	s := &p.slots
	if two == -1 {
		return one, answer{}
	}
	if !slot(two) {
		return 0, answer{no: api.ErrArg}
	}
	if one == two {
		return 0, answer{no: api.ErrTwice}
	}
	if !p.well(one) {
		return 0, answer{api.ErrState, one}
	}
	if !p.well(two) {
		return 0, answer{api.ErrState, two}
	}
	f, g := s[one].Next, s[two].Next
	s[one].Next = g
	s[g].Prev = one
	s[two].Next = f
	s[f].Prev = two
	return two, answer{}
}

func (p *plain) drop(last, i int) (int, answer) {
	s := &p.slots
	if !p.well(i) {
		return 0, answer{api.ErrState, i}
	}
	before, behind := s[i].Prev, s[i].Next
	s[before].Next = behind
	s[behind].Prev = before
	s[i].Prev = -1
	s[i].Next = -1
	switch {
	case i != last:
		return last, answer{}
	case before == i:
		return -1, answer{}
	}
	return before, answer{}
}

func (p *plain) ring(last int) []int {
	var l []int
	if !slot(last) {
		return l
	}
	for i := p.slots[last].Next; slot(i); i = p.slots[i].Next {
		l = append(l, i)
		if i == last || len(l) == 32 {
			break
		}
	}
	return l
}

func (p *plain) add(i int) answer {
	if !slot(i) {
		return answer{no: api.ErrArg}
	}
	if !p.slots[i].Used {
		return answer{no: api.ErrNone}
	}
	last, no := p.push(p.last, i)
	if no == (answer{}) {
		p.last = last
	}
	return no
}

// unit answers also how far it came: 0 for what has no first one, 1 refused by Splice, 2 by Drop, 3 by Free, 4 for a slot freed.
func (p *plain) unit() (int, bool, int) {
	if p.last == -1 {
		return 0, false, 0
	}
	f := p.slots[p.last].Next
	if !slot(f) {
		return 0, false, 0
	}
	last, no := p.splice(p.last, p.slots[f].Kids)
	if no != (answer{}) {
		return 0, false, 1
	}
	p.last = last
	last, no = p.drop(p.last, f)
	if no != (answer{}) {
		return 0, false, 2
	}
	p.last = last
	if slices.Contains(p.free, f) {
		return 0, false, 3
	}
	p.free = append([]int{f}, p.free...)
	p.slots[f] = bare()
	return f, true, 4
}

func (p *plain) all() []int {
	var l []int
	put := func(row []int) {
		for _, i := range row {
			if !slices.Contains(l, i) {
				l = append(l, i)
			}
		}
	}
	put(p.ring(p.last))
	for n := 0; n < len(l); n++ {
		put(p.ring(p.slots[l[n]].Kids))
	}
	return l
}

func bare() api.Slot { return api.Slot{Kids: -1, Prev: -1, Next: -1} }

// pair is garbage and the plain one: what is asked of the one is asked of the other, and all that can be seen is held against it.
type pair struct {
	a *arena.Arena
	g *Garbage
	p *plain
	x *tree.Tree // by which slots are hung and cut
}

func newPair() *pair {
	a := arena.New()
	x := &pair{a: a, g: New(a), p: &plain{last: -1}, x: tree.New(a)}
	for i := range 32 {
		x.p.slots[i] = bare()
		x.p.free = append(x.p.free, i)
	}
	return x
}

// used is a slot that is Used, with a birth number of its own, and something in each field that no Add may touch.
func used(i int) api.Slot {
	n := strconv.Itoa(i)
	return api.Slot{Used: true, Dead: i%3 == 0, Kids: -1, Prev: -1, Next: -1, S: api.Session{
		Slot: i + 1, Birth: 100 + i, Up: api.Link{Slot: 31 - i, Birth: 200 + i}, Kind: i % 3, User: "user" + n, Label: "label" + n,
		Scopes: api.Set(1) << i, Level: 2 - i%3, Born: -i, Deadline: math.MaxInt - i, Depth: i + 7,
	}}
}

// usedPair is one whose slots are all Used, and none free.
func usedPair(t *testing.T) *pair {
	t.Helper()
	x := newPair()
	for i := range 32 {
		tells(t, "Place", x.a.Place(i), api.OK, 0)
		x.hold(t, i, used(i))
	}
	x.p.free = nil
	return x
}

// hold writes a slot past the garbage.
func (x *pair) hold(t *testing.T, i int, s api.Slot) {
	t.Helper()
	tells(t, "Put", x.a.Put(i, s), api.OK, 0)
	x.p.slots[i] = s
}

// bend changes a slot past the garbage.
func (x *pair) bend(t *testing.T, i int, change func(s *api.Slot)) {
	t.Helper()
	s := x.p.slots[i]
	change(&s)
	x.hold(t, i, s)
}

// freed gives slots back past the garbage, whatever they hold stays.
func (x *pair) freed(t *testing.T, row ...int) *pair {
	t.Helper()
	for _, i := range row {
		s := x.p.slots[i]
		tells(t, "Free", x.a.Free(i), api.OK, 0)
		x.p.free = append([]int{i}, x.p.free...)
		x.hold(t, i, s)
	}
	return x
}

// hung hangs slots by a tree: parent, child, parent, child; the parent -1: a root.
func (x *pair) hung(t *testing.T, pairs ...int) *pair {
	t.Helper()
	for n := 0; n < len(pairs); n += 2 {
		var up api.Link
		if pairs[n] != -1 {
			up = api.Link{Slot: pairs[n], Birth: 100 + pairs[n]}
		}
		tells(t, "hung", x.x.Add(pairs[n+1], up), api.OK, 0)
	}
	x.take(t)
	return x
}

// cut cuts slots off by the tree.
func (x *pair) cut(t *testing.T, row ...int) *pair {
	t.Helper()
	for _, i := range row {
		tells(t, "Cut", x.x.Cut(i), api.OK, 0)
	}
	x.take(t)
	return x
}

// take lets the plain one hold what the slots hold, where others have written.
func (x *pair) take(t *testing.T) {
	t.Helper()
	for i := range 32 {
		s, err := x.a.Get(i)
		tells(t, "Get", err, api.OK, 0)
		x.p.slots[i] = s
	}
}

// put adds slots, each of which must go.
func (x *pair) put(t *testing.T, row ...int) *pair {
	t.Helper()
	for _, i := range row {
		tells(t, "put", x.add(t, i), api.OK, 0)
	}
	return x
}

func (x *pair) add(t *testing.T, i int) error {
	t.Helper()
	what := "Add " + strconv.Itoa(i)
	was := x.a.Writes()
	err := x.g.Add(i)
	want := x.p.add(i)
	tells(t, what, err, want.no, want.at)
	most := 3
	if want.no != api.OK {
		most = 0
	}
	if n := x.a.Writes() - was; n > most {
		t.Fatalf("%s: %d writes, want at most %d", what, n, most)
	}
	x.same(t, what)
	return err
}

// unit answers how far it came, as the plain one says.
func (x *pair) unit(t *testing.T) (int, bool, int) {
	t.Helper()
	was := x.a.Writes()
	i, ok := x.g.Unit()
	want, freed, far := x.p.unit()
	if i != want || ok != freed {
		t.Fatalf("Unit: %d, %t, want %d, %t", i, ok, want, freed)
	}
	most := []int{0, 0, 4, 7, 8}[far]
	if n := x.a.Writes() - was; n > most {
		t.Fatalf("Unit, as far as %d: %d writes, want at most %d", far, n, most)
	}
	x.same(t, "Unit")
	return i, ok, far
}

// units are so many, each of which must free the slot that is told.
func (x *pair) units(t *testing.T, want ...int) *pair {
	t.Helper()
	for _, w := range want {
		if i, ok, _ := x.unit(t); i != w || !ok {
			t.Fatalf("Unit: %d, %t, want %d", i, ok, w)
		}
	}
	return x
}

// refused is a Unit that frees nothing, and how far it came; with the last one then.
func (x *pair) refused(t *testing.T, what string, far, last int) *pair {
	t.Helper()
	if i, ok, came := x.unit(t); i != 0 || ok || came != far {
		t.Fatalf("%s: Unit: %d, %t, as far as %d; want 0, false, as far as %d", what, i, ok, came, far)
	}
	if x.g.Last() != last {
		t.Fatalf("%s: Last: %d, want %d", what, x.g.Last(), last)
	}
	return x
}

// same holds all that slots hold, which are free, the last one, and what All hands out against the plain one; none of these asks writes.
func (x *pair) same(t *testing.T, what string) {
	t.Helper()
	was := x.a.Writes()
	for i := range 32 {
		if got, err := x.a.Get(i); err != nil || got != x.p.slots[i] {
			t.Fatalf("%s: slot %d: %+v %v, want %+v", what, i, got, err, x.p.slots[i])
		}
	}
	is(t, what+": free", x.a.Frees(), x.p.free...)
	if got := x.g.Last(); got != x.p.last {
		t.Fatalf("%s: Last: %d, want %d", what, got, x.p.last)
	}
	is(t, what+": All", x.g.All(), x.p.all()...)
	if x.a.Writes() != was {
		t.Fatalf("%s: Last or All has written", what)
	}
}

// is checks what is handed out, gone over twice.
func is(t *testing.T, what string, got iter.Seq[int], want ...int) {
	t.Helper()
	for range 2 {
		if l := slices.Collect(got); !slices.Equal(l, want) {
			t.Fatalf("%s: %v, want %v", what, l, want)
		}
	}
}

// ringed links slots to a ring past the garbage, well or, where prev is false, forwards alone.
func (x *pair) ringed(t *testing.T, prev bool, row ...int) *pair {
	t.Helper()
	for n, i := range row {
		x.bend(t, i, func(s *api.Slot) {
			s.Next = row[(n+1)%len(row)]
			if prev {
				s.Prev = row[(n+len(row)-1)%len(row)]
			}
		})
	}
	return x
}

// kids writes a slot's Kids past the garbage.
func (x *pair) kids(t *testing.T, i, kids int) *pair {
	t.Helper()
	x.bend(t, i, func(s *api.Slot) { s.Kids = kids })
	return x
}

// numbers are the edges of what may be a slot, and others beside them.
func numbers() []int {
	return []int{math.MinInt, math.MinInt + 1, -1 << 32, -33, -32, -2, -1, 0, 1, 5, 10, 30, 31, 32, 33, 64, 1 << 32, 1<<32 + 5, math.MaxInt - 1, math.MaxInt}
}

// slots are all of them.
func slots() []int {
	var l []int
	for i := range 32 {
		l = append(l, i)
	}
	return l
}

// family is three generations: the roots 10, 20 and 30; below 10 are 0, 31 and 5, below 31 are 1 and 2, below 2 is 4, below 20 are 6 and 7.
func family(t *testing.T) *pair {
	t.Helper()
	return usedPair(t).hung(t, -1, 10, 10, 0, -1, 20, 10, 31, 31, 1, 10, 5, 31, 2, -1, 30, 2, 4, 20, 6, 20, 7)
}

// The chapter's examples, answers written out.
func TestExamples(t *testing.T) {
	x := newPair()
	for i := range 5 {
		if got, err := x.a.Take(); got != i || err != nil {
			t.Fatal(got, err)
		}
		x.hold(t, i, api.Slot{Used: true, Kids: -1, Prev: -1, Next: -1, S: api.Session{Birth: 100 + i}})
	}
	x.p.free = x.p.free[5:]
	x.hung(t, -1, 0, 0, 1, 0, 2, 1, 3).cut(t, 0)
	x.refused(t, "New", 0, -1)
	tells(t, "Add 0", x.add(t, 0), api.OK, 0)
	tells(t, "Add 4", x.add(t, 4), api.OK, 0)
	tells(t, "Add 0", x.add(t, 0), api.ErrTwice, 0)
	tells(t, "Add 9", x.add(t, 9), api.ErrNone, 0)
	tells(t, "Add 32", x.add(t, 32), api.ErrArg, 0)
	is(t, "All", x.g.All(), 0, 4, 1, 2, 3)
	x.units(t, 0, 4, 1, 2, 3)
	x.refused(t, "at the end", 0, -1)
	is(t, "free", x.a.Frees(), append([]int{3, 2, 1, 4, 0}, slots()[5:]...)...)
}

// P19.1: new garbage has no slots, whatever the arena holds, and nothing is written.
func TestNew(t *testing.T) {
	x := family(t).cut(t, 10).put(t, 10)
	was := x.a.Writes()
	other := New(x.a)
	if other.Last() != -1 {
		t.Errorf("Last: %d", other.Last())
	}
	is(t, "All", other.All())
	if i, ok := other.Unit(); i != 0 || ok {
		t.Errorf("Unit: %d, %t", i, ok)
	}
	if x.a.Writes() != was {
		t.Error("New has written")
	}
	x.same(t, "New")
}

// P19.1: Last is what was put last, and stays as slots are freed, but where children come behind.
func TestLast(t *testing.T) {
	x := family(t).cut(t, 20, 31)
	last := func(what string, want int) {
		t.Helper()
		if x.g.Last() != want {
			t.Fatalf("%s: Last: %d, want %d", what, x.g.Last(), want)
		}
	}
	last("New", -1)
	for _, i := range []int{8, 20, 31, 9} {
		x.put(t, i)
		last("Add", i)
	}
	for _, step := range [][2]int{{8, 9}, {20, 7}, {31, 2}, {9, 2}, {6, 2}, {7, 2}, {1, 2}, {2, 4}, {4, -1}} {
		x.units(t, step[0])
		last("Unit", step[1])
	}
	x.refused(t, "at the end", 0, -1)
	x.put(t, 15)
	last("again", 15)
}

// P19.2: numbers that are slots and that aren't, of garbage without slots, of one slot, of some, of all.
func TestNumbers(t *testing.T) {
	for _, fresh := range []func() *pair{
		newPair,
		func() *pair { return usedPair(t) },
		func() *pair { return usedPair(t).put(t, 5) },
		func() *pair { return usedPair(t).put(t, 31, 0, 10) },
		func() *pair { return usedPair(t).put(t, slots()...) },
		func() *pair { return family(t).cut(t, 10).put(t, 10) },
	} {
		x := fresh()
		for _, i := range numbers() {
			err := x.add(t, i)
			if !slot(i) {
				tells(t, "no slot", err, api.ErrArg, 0)
			}
			if err == nil {
				x.unit(t)
				x = fresh()
			}
		}
	}
}

// P19.2: which of the reasons comes first: no slot, not Used, the ring's last one that isn't well linked, there already.
func TestAddWhichFirst(t *testing.T) {
	x := usedPair(t).put(t, 3, 4, 5)
	x.bend(t, 6, func(s *api.Slot) { s.Used = false })
	tells(t, "not Used", x.add(t, 6), api.ErrNone, 0)
	x.bend(t, 3, func(s *api.Slot) { s.Used = false })
	tells(t, "the first one, not Used", x.add(t, 3), api.ErrNone, 0)
	x.bend(t, 5, func(s *api.Slot) { s.Prev = 9 })
	for _, i := range numbers() {
		if !slot(i) {
			tells(t, "no slot, of a damaged ring", x.add(t, i), api.ErrArg, 0)
		}
	}
	tells(t, "not Used, of a damaged ring", x.add(t, 6), api.ErrNone, 0)
	tells(t, "the first one, not Used", x.add(t, 3), api.ErrNone, 0)
	tells(t, "another one", x.add(t, 7), api.ErrState, 5)
	tells(t, "one amid", x.add(t, 4), api.ErrState, 5)
	tells(t, "the last one itself", x.add(t, 5), api.ErrState, 5)
	x.bend(t, 3, func(s *api.Slot) { s.Used = true })
	tells(t, "the first one", x.add(t, 3), api.ErrState, 5)
	x.bend(t, 5, func(s *api.Slot) { s.Prev = 4 })
	tells(t, "the first one, mended", x.add(t, 3), api.ErrTwice, 0)
	tells(t, "the last one, mended", x.add(t, 5), api.ErrTwice, 0)
	tells(t, "another one, mended", x.add(t, 7), api.OK, 0)
}

// P19.2: just Used is asked: neither what else the slot holds, nor whether it is free.
func TestAddAsksUsedAlone(t *testing.T) {
	for i := range 32 {
		x := newPair()
		tells(t, "bare", x.add(t, i), api.ErrNone, 0)
		s := used(i)
		s.Used = false
		x.hold(t, i, s)
		tells(t, "all but Used", x.add(t, i), api.ErrNone, 0)
		x.hold(t, i, api.Slot{Used: true})
		tells(t, "Used alone, and free", x.add(t, i), api.OK, 0)
	}
}

// P19.2: a ring's first one and its last one are there twice; one amid is taken for another one, as ring.Push takes it.
func TestAddTwice(t *testing.T) {
	x := usedPair(t).put(t, 3)
	tells(t, "alone", x.add(t, 3), api.ErrTwice, 0)
	x = usedPair(t).put(t, slots()...)
	tells(t, "the first one of all", x.add(t, 0), api.ErrTwice, 0)
	tells(t, "the last one of all", x.add(t, 31), api.ErrTwice, 0)
	for i := 1; i < 31; i++ {
		x := usedPair(t).put(t, slots()...)
		tells(t, "one amid", x.add(t, i), api.OK, 0)
		is(t, "All", x.g.All(), slots()[:i+1]...) // those between are passed by now
	}
}

// P19.2: damage elsewhere than at the last one's own links isn't asked.
func TestAddBesideDamage(t *testing.T) {
	for _, to := range numbers() {
		x := usedPair(t).put(t, 3, 4, 5, 6)
		x.bend(t, 4, func(s *api.Slot) { s.Next, s.Prev = to, to })
		tells(t, "damaged amid", x.add(t, 7), api.OK, 0)

		x = usedPair(t).put(t, 3, 4, 5, 6)
		x.bend(t, 6, func(s *api.Slot) { s.Next = to })
		tells(t, "the last one's Next", x.add(t, 7), api.ErrState, 6)

		x = usedPair(t).put(t, 3, 4, 2, 6)
		x.bend(t, 6, func(s *api.Slot) { s.Prev = to })
		tells(t, "the last one's Prev", x.add(t, 7), api.ErrState, 6)

		x = usedPair(t).put(t, 3, 4, 2, 6)
		x.bend(t, 3, func(s *api.Slot) { s.Prev = to })
		tells(t, "the first one's Prev", x.add(t, 7), api.ErrState, 6)

		x = usedPair(t).put(t, 3, 4, 2, 6)
		x.bend(t, 2, func(s *api.Slot) { s.Next = to })
		tells(t, "the Next of the one ahead of the last", x.add(t, 7), api.ErrState, 6)
	}
}

// P19.2: what a slot holds beside its links stays at an Add, its Kids too, and so does all that its neighbours hold.
func TestAddKeeps(t *testing.T) {
	x := usedPair(t)
	for i := range 32 {
		x.kids(t, i, 40-i)
	}
	was := x.p.slots
	for _, i := range []int{7, 30, 0, 31} {
		tells(t, "Add", x.g.Add(i), api.OK, 0)
	}
	for i, l := range map[int][2]int{7: {31, 30}, 30: {7, 0}, 0: {30, 31}, 31: {0, 7}} {
		was[i].Prev, was[i].Next = l[0], l[1]
	}
	for i := range 32 {
		if s, _ := x.a.Get(i); s != was[i] {
			t.Errorf("slot %d: %+v, want %+v", i, s, was[i])
		}
	}
}

// P19.3: without a last one, and where the last one's Next is no slot, nothing is done.
func TestUnitWithoutFirst(t *testing.T) {
	newPair().refused(t, "bare", 0, -1)
	usedPair(t).refused(t, "none put", 0, -1)
	for _, to := range numbers() {
		if slot(to) {
			continue
		}
		x := family(t).cut(t, 10).put(t, 8, 10)
		x.bend(t, 10, func(s *api.Slot) { s.Next = to })
		was := x.a.Writes()
		x.refused(t, "Next is no slot", 0, 10)
		x.refused(t, "nor again", 0, 10)
		if x.a.Writes() != was {
			t.Error("written")
		}
		x.bend(t, 10, func(s *api.Slot) { s.Next = 8 })
		x.units(t, 8, 10, 0, 31, 5, 1, 2, 4)
	}
}

// P19.3: refused by Splice, nothing is done: Kids that are no slot, the garbage's own last one, a ring that isn't well linked, a garbage's ring that isn't.
func TestUnitSpliceRefused(t *testing.T) {
	for _, kids := range numbers() {
		if slot(kids) || kids == -1 {
			continue
		}
		x := usedPair(t).put(t, 8, 9).kids(t, 8, kids)
		x.refused(t, "Kids are no slot", 1, 9)
		x.kids(t, 8, -1)
		x.units(t, 8, 9)
	}
	usedPair(t).put(t, 8, 9).kids(t, 8, 9).refused(t, "the last one as Kids", 1, 9)
	usedPair(t).put(t, 8).kids(t, 8, 8).refused(t, "its own Kids, alone", 1, 8)
	usedPair(t).put(t, 8, 9).kids(t, 8, 20).refused(t, "Kids that were never linked", 1, 9)

	x := usedPair(t).put(t, 8, 9).ringed(t, true, 20, 21, 22).kids(t, 8, 22)
	x.bend(t, 20, func(s *api.Slot) { s.Prev = 21 })
	x.refused(t, "Kids that aren't well linked", 1, 9)
	x.bend(t, 20, func(s *api.Slot) { s.Prev = 22 })
	x.units(t, 8, 9, 20, 21, 22)

	x = usedPair(t).put(t, 8, 9, 10).ringed(t, true, 20, 21, 22).kids(t, 8, 22)
	x.bend(t, 9, func(s *api.Slot) { s.Next = 11 })
	x.refused(t, "the last one isn't well linked", 1, 10)
	x.kids(t, 8, -1)
	x.units(t, 8) // without children nothing is spliced, and the first one's own links are right
	x.refused(t, "the next one's links aren't", 2, 10)
}

// P19.3: a ring of children that isn't right elsewhere than at its last one is spliced.
func TestUnitBesideDamage(t *testing.T) {
	x := usedPair(t).put(t, 8, 9).ringed(t, true, 20, 21, 22, 23, 24).kids(t, 8, 24)
	x.bend(t, 22, func(s *api.Slot) { s.Prev, s.Next = 8, -1 })
	x.units(t, 8, 9, 20)
	x.refused(t, "where the damage is come to", 2, 24)
}

// P19.3: refused by Drop, the children are spliced still, and the last one is theirs.
func TestUnitDropRefused(t *testing.T) {
	x := usedPair(t).put(t, 8, 9, 10).ringed(t, true, 20, 21).kids(t, 8, 21)
	x.bend(t, 9, func(s *api.Slot) { s.Prev = 30 })
	before := x.p.slots
	x.refused(t, "the one behind doesn't lead back", 2, 21)
	before[10].Next, before[20].Prev, before[21].Next, before[8].Prev = 20, 10, 8, 21
	if x.p.slots != before {
		t.Error("more was written than the children's ring put behind")
	}
	// Its Kids is the last one now: no ring is spliced with itself.
	x.refused(t, "again", 1, 21)
	x.bend(t, 9, func(s *api.Slot) { s.Prev = 8 })
	x.refused(t, "also mended", 1, 21)
	x.kids(t, 8, -1)
	x.units(t, 8, 9, 10, 20, 21)

	// Without children Splice writes nothing, and asks nothing of links.
	x = usedPair(t).put(t, 8, 9, 10)
	x.bend(t, 8, func(s *api.Slot) { s.Prev = 30 })
	was := x.a.Writes()
	x.refused(t, "without children", 2, 10)
	if x.a.Writes() != was {
		t.Error("written")
	}
	for _, to := range numbers() {
		x = usedPair(t).put(t, 8, 9, 10)
		x.bend(t, 8, func(s *api.Slot) { s.Next = to })
		x.refused(t, "the first one's Next", 2, 10)
	}
}

// P19.3: refused by Free, the slot is out of the ring, and all it holds but its links stays.
func TestUnitFreeRefused(t *testing.T) {
	x := usedPair(t).put(t, 8, 9).ringed(t, true, 20, 21).kids(t, 8, 21).freed(t, 8)
	x.refused(t, "free already", 3, 21)
	s, _ := x.a.Get(8)
	want := used(8)
	want.Kids = 21
	if s != want {
		t.Errorf("the slot: %+v, want %+v", s, want)
	}
	is(t, "free", x.a.Frees(), 8)
	x.units(t, 9, 20, 21)
	is(t, "free", x.a.Frees(), 21, 20, 9, 8)

	x = usedPair(t).put(t, 8).freed(t, 8)
	x.refused(t, "free already, alone", 3, -1)
	x.refused(t, "nothing is left", 0, -1)

	// All slots at first, none taken: each Unit takes one out, and frees none.
	x = newPair()
	for i := range 32 {
		x.hold(t, i, used(i))
		x.put(t, i)
	}
	for i := range 32 {
		last := 31
		if i == 31 {
			last = -1
		}
		x.refused(t, "free already", 3, last)
	}
	x.refused(t, "nothing is left", 0, -1)
	is(t, "free", x.a.Frees(), slots()...)
}

// P19.3: Kids that lead into the garbage's own ring, amid it: Splice of a ring with itself parts it, and what is behind is told no more.
func TestUnitOwnRing(t *testing.T) {
	x := usedPair(t).put(t, 8, 9, 10, 11).kids(t, 8, 9)
	x.units(t, 8)
	is(t, "All", x.g.All(), 9)
	x.units(t, 9)
	x.refused(t, "the rest is lost", 0, -1)

	x = usedPair(t).put(t, 8, 9, 10).kids(t, 8, 8)
	x.units(t, 8)
	x.refused(t, "its own child", 0, -1)

	x = usedPair(t).put(t, 8, 9, 10, 11).kids(t, 8, 10)
	is(t, "All", x.g.All(), 8, 9, 10, 11)
	x.units(t, 8, 9, 10)
	x.refused(t, "the rest is lost", 0, -1)
}

// P19.3: of the first one nothing but its links and its Kids is asked: children and garbage that aren't Used are freed as well.
func TestUnitAsksNotUsed(t *testing.T) {
	x := usedPair(t).put(t, 8, 9).ringed(t, true, 20, 21).kids(t, 8, 21)
	for _, i := range []int{8, 20, 21} {
		x.bend(t, i, func(s *api.Slot) { s.Used, s.Dead = false, true })
	}
	is(t, "All", x.g.All(), 8, 9, 20, 21)
	x.units(t, 8, 9, 20, 21)
	x.refused(t, "at the end", 0, -1)
}

// P19.3: the slot that was freed is told, bare, and the next one to be given again.
func TestUnitFreed(t *testing.T) {
	x := family(t).cut(t, 10, 20).put(t, 10, 20)
	for _, want := range []int{10, 20, 0, 31, 5, 6, 7, 1, 2, 4} {
		x.units(t, want)
		if s, _ := x.a.Get(want); s != bare() {
			t.Fatalf("slot %d: %+v", want, s)
		}
		i, err := x.a.Take()
		if i != want || err != nil {
			t.Fatalf("Take: %d, %v, want %d", i, err, want)
		}
		x.p.free = x.p.free[1:]
		x.same(t, "Take")
		// What is born into the slot now is no garbage.
		x.hold(t, i, used(i))
	}
	x.refused(t, "at the end", 0, -1)
	if _, err := x.a.Take(); !errors.Is(err, api.ErrFull) {
		t.Errorf("Take: %v", err)
	}
}

// P19.3: of all slots: alone, as one chain, as one parent's children.
func TestUnitOfAll(t *testing.T) {
	x := usedPair(t).put(t, slots()...)
	is(t, "All", x.g.All(), slots()...)
	x.units(t, slots()...).refused(t, "a row", 0, -1)

	x = usedPair(t).hung(t, -1, 0)
	for i := range 31 {
		x.hung(t, i, i+1)
	}
	x.cut(t, 0).put(t, 0)
	is(t, "All", x.g.All(), slots()...)
	x.units(t, slots()...).refused(t, "a chain", 0, -1)

	x = usedPair(t).hung(t, -1, 31)
	for i := range 31 {
		x.hung(t, 31, i)
	}
	x.cut(t, 31).put(t, 31)
	want := append([]int{31}, slots()[:31]...)
	is(t, "All", x.g.All(), want...)
	x.units(t, want...).refused(t, "a star", 0, -1)
}

// P19.4: the ring's slots first, then the children of each, then theirs; garbage alone, not what hangs elsewhere.
func TestAllInOrder(t *testing.T) {
	x := family(t)
	is(t, "none", x.g.All())
	x.cut(t, 31)
	x.put(t, 31)
	is(t, "one", x.g.All(), 31, 1, 2, 4)
	x.cut(t, 20)
	x.put(t, 20, 9)
	is(t, "three", x.g.All(), 31, 20, 9, 1, 2, 6, 7, 4)
	x.cut(t, 10)
	x.put(t, 10)
	is(t, "four", x.g.All(), 31, 20, 9, 10, 1, 2, 6, 7, 0, 5, 4)
	is(t, "Roots", x.x.Roots(), 30)
}

// P19.4: none twice: circles, rings that lead into one another, a ring below two; Kids that are no slot lead nowhere.
func TestAllTwice(t *testing.T) {
	x := usedPair(t).put(t, 1).ringed(t, false, 2).kids(t, 1, 2).ringed(t, false, 3).kids(t, 2, 3).kids(t, 3, 1)
	is(t, "a circle", x.g.All(), 1, 2, 3)

	x = usedPair(t).put(t, 1).kids(t, 1, 1)
	is(t, "its own child", x.g.All(), 1)

	x = usedPair(t).put(t, 1, 2, 3).kids(t, 1, 2).kids(t, 2, 3).kids(t, 3, 3)
	is(t, "the own ring", x.g.All(), 1, 2, 3)

	x = usedPair(t).put(t, 1, 2).ringed(t, false, 7, 5, 6).kids(t, 1, 6).kids(t, 2, 5)
	is(t, "a ring below two", x.g.All(), 1, 2, 7, 5, 6)

	x = usedPair(t).put(t, 1, 2).ringed(t, false, 7, 5, 6).ringed(t, false, 9)
	x.kids(t, 1, 9).bend(t, 9, func(s *api.Slot) { s.Next = 5 })
	is(t, "into a ring that it isn't of", x.g.All(), 1, 2, 5, 6, 7)

	x = usedPair(t).put(t, 1, 2, 3)
	x.bend(t, 2, func(s *api.Slot) { s.Next = 1 }) // never comes to the last one
	is(t, "a garbage's ring that isn't right", x.g.All(), 1, 2)
	x.kids(t, 2, 3)
	is(t, "nor below itself", x.g.All(), 1, 2)
	x.bend(t, 3, func(s *api.Slot) { s.Next = 3 })
	is(t, "alone", x.g.All(), 3)

	for _, to := range numbers() {
		if slot(to) {
			continue
		}
		x = usedPair(t).put(t, 1, 2, 3)
		x.bend(t, 2, func(s *api.Slot) { s.Next = to })
		is(t, "a ring that ends amid", x.g.All(), 1, 2)
		x.bend(t, 3, func(s *api.Slot) { s.Next = to })
		is(t, "a last one that leads nowhere", x.g.All())
		x = usedPair(t).put(t, 1, 2).kids(t, 1, to).kids(t, 2, 20)
		x.bend(t, 20, func(s *api.Slot) { s.Next = to })
		is(t, "Kids that lead nowhere", x.g.All(), 1, 2)
	}
}

// P19.4: damage that Unit refuses doesn't end All: it goes by Next alone, past Used.
func TestAllGoesByNext(t *testing.T) {
	x := usedPair(t).put(t, 8, 9).ringed(t, true, 20, 21).kids(t, 8, 21)
	for _, i := range []int{8, 9, 20, 21} {
		x.bend(t, i, func(s *api.Slot) { s.Prev, s.Used = -7, false })
	}
	is(t, "All", x.g.All(), 8, 9, 20, 21)
	x.refused(t, "Unit", 1, 9)
}

// P19.4: what is handed out is as the links were when it was got.
func TestAsItWas(t *testing.T) {
	x := family(t).cut(t, 10)
	none := x.g.All()
	x.put(t, 8, 10)
	some := x.g.All()
	asked := func(what string) {
		t.Helper()
		is(t, what, none)
		is(t, what, some, 8, 10, 0, 31, 5, 1, 2, 4)
	}
	asked("at once")
	x.put(t, 9)
	asked("behind Add")
	for range 9 {
		x.unit(t)
		asked("behind Unit")
	}
	is(t, "all freed", x.g.All())
	for i := range 32 {
		x.hold(t, i, api.Slot{})
	}
	asked("behind Put")
}

// P19.4: nor is it changed by what is put and freed amid going over it.
func TestAmidGoingOver(t *testing.T) {
	x := family(t).cut(t, 10).put(t, 8, 10)
	var seen []int
	for i := range x.g.All() {
		seen = append(seen, i)
		x.put(t, 11+len(seen))
		x.unit(t)
	}
	if !slices.Equal(seen, []int{8, 10, 0, 31, 5, 1, 2, 4}) {
		t.Errorf("All: %v", seen)
	}
}

// P19.4: left ahead of its end, gone over again, and twice at once.
func TestLeftAndAgain(t *testing.T) {
	x := family(t).cut(t, 10).put(t, 8, 10)
	got := x.g.All()
	whole := []int{8, 10, 0, 31, 5, 1, 2, 4}
	for n := range len(whole) + 1 {
		var seen []int
		for i := range got {
			if len(seen) == n {
				break
			}
			seen = append(seen, i)
		}
		if !slices.Equal(seen, whole[:n]) {
			t.Errorf("left behind %d: %v", n, seen)
		}
	}
	count := 0
	for range got {
		is(t, "amid itself", got, whole...)
		count++
	}
	if count != len(whole) {
		t.Errorf("gone over %d, want %d", count, len(whole))
	}
}

// P19.5: how often slots are written, at most; the most of a Unit is where children are spliced and the slot isn't alone.
func TestSmall(t *testing.T) {
	x := usedPair(t).hung(t, -1, 31)
	for i := range 30 {
		x.hung(t, 31, i)
	}
	x.cut(t, 31)
	wrote := func(what string, call func(), least, most int) {
		t.Helper()
		was := x.a.Writes()
		call()
		if n := x.a.Writes() - was; n < least || n > most {
			t.Errorf("%s: %d writes, want %d to %d", what, n, least, most)
		}
	}
	wrote("Add", func() { x.put(t, 31) }, 1, 3)
	wrote("Add", func() { x.put(t, 30) }, 2, 3)
	wrote("Unit, 30 children", func() { x.units(t, 31) }, 1, 8)
	wrote("Unit, none", func() { x.units(t, 30) }, 1, 8)
	wrote("Add, no slot", func() { x.add(t, 32) }, 0, 0)
	wrote("Add, not Used", func() { x.add(t, 31) }, 0, 0)
	wrote("Add, there", func() { x.add(t, 0) }, 0, 0)
	x.bend(t, 0, func(s *api.Slot) { s.Prev = 5 })
	wrote("Add, damaged", func() { x.add(t, 20) }, 0, 0)
}

// lists are children by parents, -1 for the roots: another plain reading, of P19.6 alone.
type lists map[int][]int

// below are slots and all below them, generation by generation.
func (l lists) below(row []int) []int {
	var all []int
	for len(row) > 0 {
		var next []int
		for _, i := range row {
			all = append(all, i)
			next = append(next, l[i]...)
		}
		row = next
	}
	return all
}

// P19.6: drawn slots are hung; some are cut and put here, no one below another one; just these and all below them are freed, each once, in All's order, and the rest stays as it was.
func TestEachOnce(t *testing.T) {
	r := rand.New(rand.NewSource(19))
	for range 200 {
		x := usedPair(t)
		l, ups := lists{}, map[int]int{}
		order := r.Perm(32)[:1+r.Intn(32)]
		for n, i := range order {
			up := -1
			if n > 0 && r.Intn(4) > 0 {
				up = order[r.Intn(n)]
			}
			x.hung(t, up, i)
			l[up] = append(l[up], i)
			ups[i] = up
		}
		var heads, gone []int
		for range 1 + r.Intn(6) {
			i := order[r.Intn(len(order))]
			row := l.below([]int{i})
			if slices.ContainsFunc(row, func(k int) bool { return slices.Contains(gone, k) }) {
				continue // it is below another one, or another one was below it
			}
			heads, gone = append(heads, i), append(gone, row...)
			x.cut(t, i).put(t, i)
			l[ups[i]] = slices.DeleteFunc(l[ups[i]], func(k int) bool { return k == i })
		}
		want := l.below(heads)
		is(t, "All", x.g.All(), want...)
		kept := x.p.slots
		for n, i := range want {
			x.units(t, i)
			is(t, "what is left", x.g.All(), want[n+1:]...)
			kept[i] = bare()
		}
		x.refused(t, "the next one", 0, -1)
		for i := range 32 {
			if s, _ := x.a.Get(i); s != kept[i] {
				t.Fatalf("slot %d: %+v, want %+v", i, s, kept[i])
			}
		}
		slices.Reverse(want)
		is(t, "free", x.a.Frees(), want...)
		is(t, "Roots", x.x.Roots(), l[-1]...)
	}
}

// P19.6: slots put here between units, and what is born into slots that were freed, hung, cut and put here again.
func TestAgainAndAgain(t *testing.T) {
	r := rand.New(rand.NewSource(190))
	for range 60 {
		x := usedPair(t)
		var live []int
		for i := range 32 {
			x.hung(t, -1, i)
			live = append(live, i)
		}
		for range 120 {
			if len(live) > 0 && r.Intn(3) == 0 {
				i := live[r.Intn(len(live))]
				below := slices.Collect(x.x.Under(i))
				x.cut(t, i).put(t, i)
				live = slices.DeleteFunc(live, func(k int) bool { return slices.Contains(below, k) })
				continue
			}
			was := len(x.p.all())
			i, ok, _ := x.unit(t)
			if ok != (was > 0) || len(x.p.all()) != was-min(was, 1) {
				t.Fatalf("a unit: %d, %t, of %d", i, ok, was)
			}
			if !ok || r.Intn(2) == 0 {
				continue
			}
			tells(t, "Place", x.a.Place(i), api.OK, 0)
			x.p.free = slices.DeleteFunc(x.p.free, func(f int) bool { return f == i })
			x.hold(t, i, used(i))
			up := -1
			if len(live) > 0 && r.Intn(4) > 0 {
				up = live[r.Intn(len(live))]
			}
			x.hung(t, up, i)
			live = append(live, i)
		}
		if n := len(live) + len(x.p.all()) + len(x.p.free); n != 32 {
			t.Fatalf("%d live, %d garbage, %d free", len(live), len(x.p.all()), len(x.p.free))
		}
	}
}

// P19.2 to P19.5: slots whose every link is drawn, most of them wrong, against the plain garbage.
func TestDrawnLinks(t *testing.T) {
	r := rand.New(rand.NewSource(91))
	drawn := func() int { return r.Intn(9) - 1 }
	came := map[int]int{}
	for range 3000 {
		x := usedPair(t)
		for i := range 8 {
			x.hold(t, i, api.Slot{Used: r.Intn(8) > 0, Kids: drawn(), Prev: drawn(), Next: drawn()})
		}
		for range 12 {
			switch r.Intn(4) {
			case 0:
				x.bend(t, r.Intn(8), func(s *api.Slot) { s.Kids = drawn() })
			case 1:
				_, _, far := x.unit(t)
				came[far]++
			default:
				x.add(t, drawn())
			}
		}
	}
	for far := range 5 {
		if far != 3 && came[far] < 20 {
			t.Errorf("as far as %d: just %d times", far, came[far])
		}
	}
}

// P19.2 to P19.5: calls on garbage that is right at first, of which one slot is bent, or given back, now and then.
func TestBentNowAndThen(t *testing.T) {
	r := rand.New(rand.NewSource(1900))
	came := map[int]int{}
	for range 600 {
		x := family(t).cut(t, 10, 20).put(t, 10, 20)
		for range 30 {
			i := r.Intn(32)
			switch r.Intn(16) {
			case 0:
				x.bend(t, i, func(s *api.Slot) { s.Next = r.Intn(34) - 1 })
			case 1:
				x.bend(t, i, func(s *api.Slot) { s.Prev = r.Intn(34) - 1 })
			case 2:
				x.bend(t, i, func(s *api.Slot) { s.Kids = r.Intn(34) - 1 })
			case 3:
				x.bend(t, i, func(s *api.Slot) { s.Used = !s.Used })
			case 4:
				if !slices.Contains(x.p.free, i) {
					x.freed(t, i)
				}
			case 5, 6, 7, 8:
				x.add(t, i)
			default:
				_, _, far := x.unit(t)
				came[far]++
			}
		}
	}
	for far := range 5 {
		if came[far] < 20 {
			t.Errorf("as far as %d: just %d times", far, came[far])
		}
	}
}

// Two garbages know nothing of one another: over two arenas, and of their rings over one.
func TestTwo(t *testing.T) {
	x, y := family(t).cut(t, 10), usedPair(t)
	x.put(t, 10)
	y.put(t, 3, 4)
	x.same(t, "the other")
	other := New(x.a)
	tells(t, "Add 8", other.Add(8), api.OK, 0)
	tells(t, "Add 9", other.Add(9), api.OK, 0)
	x.take(t)
	x.same(t, "the other over one arena")
	is(t, "All of the other", other.All(), 8, 9)
	x.units(t, 10, 0)
	is(t, "All of the other", other.All(), 8, 9)
	if i, ok := other.Unit(); i != 8 || !ok || other.Last() != 9 {
		t.Errorf("Unit of the other: %d, %t", i, ok)
	}
	is(t, "All of the one", x.g.All(), 31, 5, 1, 2, 4)
	y.units(t, 3, 4)
}

// Without an arena there are no slots.
func TestNoArena(t *testing.T) {
	g := New(nil)
	for _, i := range numbers() {
		tells(t, "Add", g.Add(i), api.ErrArg, 0)
	}
	is(t, "All", g.All())
	if i, ok := g.Unit(); i != 0 || ok || g.Last() != -1 {
		t.Errorf("Unit: %d, %t; Last: %d", i, ok, g.Last())
	}
}
