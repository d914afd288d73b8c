package tree

import (
	"errors"
	"iter"
	"math"
	"math/rand"
	"slices"
	"strconv"
	"testing"

	"lineage/api"
	"lineage/arena"
)

// tells checks an error's number, against all numbers; ErrState has the place at, no other error has one.
func tells(t *testing.T, what string, err error, no api.Errno, at int) {
	t.Helper()
	for n := api.OK; n <= api.ErrState+1; n++ {
		want := n == no && no != api.OK
		if errors.Is(err, n) != want {
			t.Fatalf("%s: errors.Is(%v, %d): want just %d", what, err, n, no)
		}
	}
	if no == api.OK && err != nil {
		t.Fatalf("%s: %v: want no error", what, err)
	}
	var f api.Fault
	switch told := errors.As(err, &f); {
	case no != api.ErrState && told:
		t.Fatalf("%s: a place %+v: want none", what, f)
	case no == api.ErrState && (!told || f != api.Fault{No: no, At: at}):
		t.Fatalf("%s: %t, a place %+v: want %d", what, told, f, at)
	}
}

// The plain tree: what each slot holds, and the roots' last one, changed word by word as the chapters 16 and 17 say it.

type plain struct {
	slots [32]api.Slot
	last  int
}

// answer is an error's number and, for ErrState, its place.
type answer struct {
	no api.Errno
	at int
}

func slot(i int) bool { return 0 <= i && i <= 31 }

func (p *plain) well(i int) bool {
	s := &p.slots
	if !slot(s[i].Prev) || !slot(s[i].Next) {
		return false
	}
	return s[s[i].Prev].Next == i && s[s[i].Next].Prev == i
}

func (p *plain) push(last, i int) (int, answer) {
	s := &p.slots
	if last == -1 {
		s[i].Prev = i
		s[i].Next = i
		return i, answer{}
	}
	if !slot(last) {
		return 0, answer{no: api.ErrArg}
	}
	if !p.well(last) {
		return 0, answer{api.ErrState, last}
	}
	f := s[last].Next
	if i == last || i == f {
		return 0, answer{no: api.ErrTwice}
	}
	s[i].Prev = last
	s[i].Next = f
	s[last].Next = i
	s[f].Prev = i
	return i, answer{}
}

func (p *plain) drop(last, i int) (int, answer) {
	s := &p.slots
	if !slot(last) {
		return 0, answer{no: api.ErrArg}
	}
	if !p.well(i) {
		return 0, answer{api.ErrState, i}
	}
	before, behind := s[i].Prev, s[i].Next
	s[before].Next = behind
	s[behind].Prev = before
	s[i].Prev = -1
	s[i].Next = -1
	switch {
	case i != last:
		return last, answer{}
	case before == i:
		return -1, answer{}
	}
	return before, answer{}
}

func (p *plain) all(last int) []int {
	var l []int
	if !slot(last) {
		return l
	}
	for i := p.slots[last].Next; slot(i); i = p.slots[i].Next {
		l = append(l, i)
		if i == last || len(l) == 32 {
			break
		}
	}
	return l
}

func (p *plain) there(l api.Link) bool {
	return slot(l.Slot) && p.slots[l.Slot].Used && p.slots[l.Slot].S.Birth == l.Birth
}

func (p *plain) add(i int, up api.Link) answer {
	if !slot(i) {
		return answer{no: api.ErrArg}
	}
	if !p.slots[i].Used {
		return answer{no: api.ErrNone}
	}
	if up.Birth == 0 {
		last, no := p.push(p.last, i)
		if no != (answer{}) {
			return no
		}
		p.slots[i].Kids = -1
		p.slots[i].S.Up = api.Link{}
		p.last = last
		return answer{}
	}
	if !slot(up.Slot) {
		return answer{no: api.ErrArg}
	}
	if up.Slot == i {
		return answer{no: api.ErrTwice}
	}
	if !p.there(up) {
		return answer{no: api.ErrNone}
	}
	if _, no := p.push(p.slots[up.Slot].Kids, i); no != (answer{}) {
		return no
	}
	p.slots[i].Kids = -1
	p.slots[i].S.Up = up
	p.slots[up.Slot].Kids = i
	return answer{}
}

func (p *plain) cut(i int) answer {
	if !slot(i) {
		return answer{no: api.ErrArg}
	}
	if !p.slots[i].Used {
		return answer{no: api.ErrNone}
	}
	up := p.slots[i].S.Up
	if up.Birth == 0 {
		last, no := p.drop(p.last, i)
		if no == (answer{}) {
			p.last = last
		}
		return no
	}
	if !p.there(up) {
		return answer{no: api.ErrNone}
	}
	last, no := p.drop(p.slots[up.Slot].Kids, i)
	if no == (answer{}) {
		p.slots[up.Slot].Kids = last
	}
	return no
}

func (p *plain) kids(i int) []int {
	if !slot(i) {
		return nil
	}
	return p.all(p.slots[i].Kids)
}

func (p *plain) under(i int) []int {
	var l []int
	if slot(i) {
		p.below(i, &l)
	}
	return l
}

func (p *plain) below(i int, l *[]int) {
	if slices.Contains(*l, i) {
		return
	}
	*l = append(*l, i)
	for _, k := range p.kids(i) {
		p.below(k, l)
	}
}

// pair is a tree and the plain one: what is asked of the one is asked of the other, and all that can be seen is held against it.
type pair struct {
	a    *arena.Arena
	x    *Tree
	p    *plain
	free []int // which slots are free, the first one first: no call may change it
}

func newPair() *pair {
	a := arena.New()
	x := &pair{a: a, x: New(a), p: &plain{last: -1}}
	for i := range 32 {
		x.p.slots[i] = api.Slot{Kids: -1, Prev: -1, Next: -1}
		x.free = append(x.free, i)
	}
	return x
}

// used is a slot that is Used, with a birth number of its own, and something in each field that no call may touch.
func used(i int) api.Slot {
	n := strconv.Itoa(i)
	return api.Slot{Used: true, Dead: i%3 == 0, Kids: 40 - i, Prev: -1, Next: -1, S: api.Session{
		Slot: i + 1, Birth: 100 + i, Up: api.Link{Slot: 31 - i, Birth: 200 + i}, Kind: i % 3, User: "user" + n, Label: "label" + n,
		Scopes: api.Set(1) << i, Level: 2 - i%3, Born: -i, Deadline: math.MaxInt - i, Depth: i + 7,
	}}
}

// usedPair is one whose slots are all Used, and some of which are free, out of order: a tree doesn't ask whether a slot is free.
func usedPair(t *testing.T) *pair {
	t.Helper()
	x := newPair()
	for i := range 32 {
		tells(t, "Place", x.a.Place(i), api.OK, 0)
	}
	x.free = nil
	for _, i := range []int{12, 3, 31, 0, 7} {
		tells(t, "Free", x.a.Free(i), api.OK, 0)
		x.free = append([]int{i}, x.free...)
	}
	for i := range 32 {
		x.hold(t, i, used(i))
	}
	return x
}

// hold writes a slot past the tree.
func (x *pair) hold(t *testing.T, i int, s api.Slot) {
	t.Helper()
	tells(t, "Put", x.a.Put(i, s), api.OK, 0)
	x.p.slots[i] = s
}

// bend changes a slot past the tree.
func (x *pair) bend(t *testing.T, i int, change func(s *api.Slot)) {
	t.Helper()
	s := x.p.slots[i]
	change(&s)
	x.hold(t, i, s)
}

func (x *pair) add(t *testing.T, i int, up api.Link) error {
	t.Helper()
	what := "Add " + strconv.Itoa(i) + " below " + strconv.Itoa(up.Slot) + "/" + strconv.Itoa(up.Birth)
	return x.asked(t, what, func() error { return x.x.Add(i, up) }, func() answer { return x.p.add(i, up) })
}

func (x *pair) cut(t *testing.T, i int) error {
	t.Helper()
	return x.asked(t, "Cut "+strconv.Itoa(i), func() error { return x.x.Cut(i) }, func() answer { return x.p.cut(i) })
}

func (x *pair) asked(t *testing.T, what string, call func() error, plainly func() answer) error {
	t.Helper()
	was := x.a.Writes()
	err := call()
	want := plainly()
	tells(t, what, err, want.no, want.at)
	most := 8
	if want.no != api.OK {
		most = 0
	}
	if n := x.a.Writes() - was; n > most {
		t.Fatalf("%s: %d writes, want at most %d", what, n, most)
	}
	x.same(t, what)
	return err
}

// same holds all that slots hold, which are free, and the roots' last one against the plain tree.
func (x *pair) same(t *testing.T, what string) {
	t.Helper()
	for i := range 32 {
		if got, err := x.a.Get(i); err != nil || got != x.p.slots[i] {
			t.Fatalf("%s: slot %d: %+v %v, want %+v", what, i, got, err, x.p.slots[i])
		}
	}
	if got := slices.Collect(x.a.Frees()); !slices.Equal(got, x.free) {
		t.Fatalf("%s: free: %v, want %v", what, got, x.free)
	}
	if got := x.x.Last(); got != x.p.last {
		t.Fatalf("%s: Last: %d, want %d", what, got, x.p.last)
	}
}

// hands holds what the three iterators hand out, of those numbers, against the plain tree; nothing is written.
func (x *pair) hands(t *testing.T, numbers []int) {
	t.Helper()
	was := x.a.Writes()
	is(t, "Roots", x.x.Roots(), x.p.all(x.p.last)...)
	for _, i := range numbers {
		is(t, "Kids "+strconv.Itoa(i), x.x.Kids(i), x.p.kids(i)...)
		is(t, "Under "+strconv.Itoa(i), x.x.Under(i), x.p.under(i)...)
	}
	if x.a.Writes() != was {
		t.Fatal("an iterator has written")
	}
}

// is checks what is handed out, gone over twice.
func is(t *testing.T, what string, got iter.Seq[int], want ...int) {
	t.Helper()
	for range 2 {
		if l := slices.Collect(got); !slices.Equal(l, want) {
			t.Fatalf("%s: %v, want %v", what, l, want)
		}
	}
}

// root is a link that tells no parent.
func root() api.Link { return api.Link{} }

// below is the link to a slot that usedPair has made.
func below(i int) api.Link { return api.Link{Slot: i, Birth: 100 + i} }

// hung hangs slots, each of which must go: parent, child, parent, child; the parent -1: a root.
func (x *pair) hung(t *testing.T, pairs ...int) *pair {
	t.Helper()
	for n := 0; n < len(pairs); n += 2 {
		up := root()
		if pairs[n] != -1 {
			up = below(pairs[n])
		}
		tells(t, "hung", x.add(t, pairs[n+1], up), api.OK, 0)
	}
	return x
}

// family is a tree of three generations: the roots 10, 20 and 30; below 10 are 0, 31 and 5, below 31 are 1 and 2, below 2 is 4.
func family(t *testing.T) *pair {
	t.Helper()
	return usedPair(t).hung(t, -1, 10, 10, 0, -1, 20, 10, 31, 31, 1, 10, 5, 31, 2, -1, 30, 2, 4)
}

// numbers are the edges of what may be a slot, and others beside them.
func numbers() []int {
	return []int{math.MinInt, math.MinInt + 1, -1 << 32, -33, -32, -2, -1, 0, 1, 5, 10, 30, 31, 32, 33, 64, 1 << 32, 1<<32 + 5, math.MaxInt - 1, math.MaxInt}
}

// slots are all of them.
func slots() []int {
	var l []int
	for i := range 32 {
		l = append(l, i)
	}
	return l
}

// The chapter's examples, answers written out.
func TestExamples(t *testing.T) {
	x := newPair()
	for i := range 5 {
		x.hold(t, i, api.Slot{Used: true, Kids: -1, Prev: -1, Next: -1, S: api.Session{Birth: i + 1}})
	}
	tells(t, "Add 0", x.add(t, 0, api.Link{}), api.OK, 0)
	tells(t, "Add 1", x.add(t, 1, api.Link{Slot: 0, Birth: 1}), api.OK, 0)
	tells(t, "Add 2", x.add(t, 2, api.Link{Slot: 0, Birth: 1}), api.OK, 0)
	tells(t, "Add 3", x.add(t, 3, api.Link{Slot: 1, Birth: 2}), api.OK, 0)
	if x.x.Last() != 0 {
		t.Errorf("Last: %d", x.x.Last())
	}
	is(t, "Kids 0", x.x.Kids(0), 1, 2)
	is(t, "Under 0", x.x.Under(0), 0, 1, 3, 2)
	tells(t, "Add 9", x.add(t, 9, api.Link{}), api.ErrNone, 0)
	tells(t, "Add 32", x.add(t, 32, api.Link{}), api.ErrArg, 0)
	tells(t, "Add 4 below 0/7", x.add(t, 4, api.Link{Slot: 0, Birth: 7}), api.ErrNone, 0)
	tells(t, "Add 4 below 4/5", x.add(t, 4, api.Link{Slot: 4, Birth: 5}), api.ErrTwice, 0)
	tells(t, "Add 2 below 0/1", x.add(t, 2, api.Link{Slot: 0, Birth: 1}), api.ErrTwice, 0)
	tells(t, "Cut 1", x.cut(t, 1), api.OK, 0)
	is(t, "Kids 0", x.x.Kids(0), 2)
	is(t, "Under 0", x.x.Under(0), 0, 2)
	is(t, "Under 1", x.x.Under(1), 1, 3)
	tells(t, "Cut 1", x.cut(t, 1), api.ErrState, 1)
	tells(t, "Cut 0", x.cut(t, 0), api.OK, 0)
	if x.x.Last() != -1 {
		t.Errorf("Last: %d", x.x.Last())
	}
	is(t, "Roots", x.x.Roots())
}

// P17.1: a new tree has no roots, whatever the arena holds, and nothing is written.
func TestNew(t *testing.T) {
	x := family(t)
	was := x.a.Writes()
	other := New(x.a)
	if other.Last() != -1 {
		t.Errorf("Last: %d", other.Last())
	}
	is(t, "Roots", other.Roots())
	is(t, "Under 31", other.Under(31), 31, 1, 2, 4)
	if x.a.Writes() != was {
		t.Error("New has written")
	}
	x.same(t, "New")
}

// P17.1: Last is the last one of the roots that was hung, and moves back where it is cut.
func TestLast(t *testing.T) {
	x := usedPair(t)
	for _, i := range []int{5, 0, 31, 7} {
		x.hung(t, -1, i)
		if x.x.Last() != i {
			t.Errorf("behind Add %d: %d", i, x.x.Last())
		}
		x.hung(t, i, 30-i%30)
		if x.x.Last() != i {
			t.Errorf("behind Add below %d: %d", i, x.x.Last())
		}
	}
	for _, e := range [][2]int{{7, 31}, {0, 31}, {31, 5}, {5, -1}} {
		tells(t, "Cut", x.cut(t, e[0]), api.OK, 0)
		if x.x.Last() != e[1] {
			t.Errorf("behind Cut %d: %d, want %d", e[0], x.x.Last(), e[1])
		}
	}
}

// P17.2 to P17.5: numbers that are slots and that aren't, of trees without roots, with one, with some, with all slots.
func TestNumbers(t *testing.T) {
	full := func() *pair {
		x := usedPair(t)
		for i := range 32 {
			x.hung(t, -1, i)
		}
		return x
	}
	chain := func() *pair {
		x := usedPair(t).hung(t, -1, 0)
		for i := range 31 {
			x.hung(t, i, i+1)
		}
		return x
	}
	for _, fresh := range []func() *pair{
		newPair,
		func() *pair { return usedPair(t) },
		func() *pair { return usedPair(t).hung(t, -1, 5) },
		func() *pair { return family(t) },
		full,
		chain,
	} {
		x := fresh()
		x.hands(t, numbers())
		x.hands(t, slots())
		for _, i := range numbers() {
			x.cut(t, i)
			x = fresh()
			for _, up := range numbers() {
				for _, birth := range []int{0, 100 + up, 1, -1, math.MinInt, math.MaxInt} {
					if x.add(t, i, api.Link{Slot: up, Birth: birth}) == nil {
						x.hands(t, slots())
						x = fresh()
					}
				}
			}
		}
	}
}

// P17.2: a link whose Birth is 0 tells no parent, whatever its Slot is: what has it is a root, and its S.Up zero.
func TestAddRoot(t *testing.T) {
	for _, where := range append(numbers(), slots()...) {
		x := usedPair(t).hung(t, -1, 10, 10, 1)
		tells(t, "Add 5", x.add(t, 5, api.Link{Slot: where}), api.OK, 0)
		s, _ := x.a.Get(5)
		if s.S.Up != (api.Link{}) || s.Kids != -1 || s.Prev != 10 || s.Next != 10 {
			t.Fatalf("a root by the Slot %d: %+v", where, s)
		}
		is(t, "Roots", x.x.Roots(), 10, 5)
		is(t, "Kids 10", x.x.Kids(10), 1)
		is(t, "Kids 5", x.x.Kids(5))
	}
}

// P17.2: what is written of the slot, of its parent, and of its brothers; nothing else of them is.
func TestAddWrites(t *testing.T) {
	x := usedPair(t).hung(t, -1, 10, 10, 0, 10, 31)
	was := x.p.slots
	tells(t, "Add 5", x.x.Add(5, below(10)), api.OK, 0)
	was[5].Kids, was[5].Prev, was[5].Next, was[5].S.Up = -1, 31, 0, api.Link{Slot: 10, Birth: 110}
	was[10].Kids = 5
	was[31].Next = 5
	was[0].Prev = 5
	for i := range 32 {
		if s, _ := x.a.Get(i); s != was[i] {
			t.Errorf("slot %d: %+v, want %+v", i, s, was[i])
		}
	}
}

// P17.2: the slot's Kids is -1 behind Add, wherever it led, and S.Up what was asked, whatever it was.
func TestAddForgets(t *testing.T) {
	for _, kids := range numbers() {
		for _, up := range []api.Link{root(), below(10), {Slot: kids, Birth: 0}} {
			x := family(t)
			x.bend(t, 6, func(s *api.Slot) { s.Kids, s.S.Up = kids, api.Link{Slot: kids, Birth: kids} })
			tells(t, "Add 6", x.add(t, 6, up), api.OK, 0)
			s, _ := x.a.Get(6)
			if up.Birth == 0 {
				up = root()
			}
			if s.Kids != -1 || s.S.Up != up {
				t.Fatalf("Kids %d: %+v", kids, s)
			}
			is(t, "Kids 6", x.x.Kids(6))
			is(t, "Under 6", x.x.Under(6), 6)
		}
	}
}

// P17.2: which of the reasons comes first.
func TestAddWhichFirst(t *testing.T) {
	x := family(t)
	x.bend(t, 6, func(s *api.Slot) { s.Used = false })
	x.bend(t, 7, func(s *api.Slot) { s.Kids = 32 })
	x.bend(t, 8, func(s *api.Slot) { s.Kids = 9 })
	x.bend(t, 6, func(s *api.Slot) { s.Kids = 9 })
	for _, e := range []struct {
		i, up, birth int
		no           api.Errno
		at           int
	}{
		{32, 32, 1, api.ErrArg, 0}, {-1, -1, 1, api.ErrArg, 0}, {-1, 6, 106, api.ErrArg, 0}, {32, 8, 108, api.ErrArg, 0}, {32, 0, 0, api.ErrArg, 0},
		{6, 32, 1, api.ErrNone, 0}, {6, 6, 106, api.ErrNone, 0}, {6, 8, 108, api.ErrNone, 0}, {6, 0, 0, api.ErrNone, 0}, {6, 7, 107, api.ErrNone, 0},
		{9, 32, 132, api.ErrArg, 0}, {9, -1, 99, api.ErrArg, 0}, {9, -1, 1, api.ErrArg, 0}, {9, math.MinInt, -5, api.ErrArg, 0}, {9, math.MaxInt, 7, api.ErrArg, 0},
		{9, 9, 109, api.ErrTwice, 0}, {9, 9, 1, api.ErrTwice, 0}, {9, 9, -1, api.ErrTwice, 0}, {8, 8, 108, api.ErrTwice, 0}, {7, 7, 107, api.ErrTwice, 0},
		{9, 6, 106, api.ErrNone, 0}, {9, 8, 107, api.ErrNone, 0}, {9, 7, -107, api.ErrNone, 0}, {9, 10, 111, api.ErrNone, 0}, {9, 10, math.MaxInt, api.ErrNone, 0},
		{9, 7, 107, api.ErrArg, 0}, {9, 8, 108, api.ErrState, 9}, {11, 8, 108, api.ErrState, 9},
		{5, 10, 110, api.ErrTwice, 0}, {0, 10, 110, api.ErrTwice, 0}, {30, 0, 0, api.ErrTwice, 0}, {10, 0, 0, api.ErrTwice, 0}, {4, 2, 102, api.ErrTwice, 0},
	} {
		tells(t, "Add", x.add(t, e.i, api.Link{Slot: e.up, Birth: e.birth}), e.no, e.at)
	}
}

// P17.2: a parent is there by Used and by its Birth alone, one below 0 too; that it is Dead, or hangs nowhere, is not asked.
func TestAddParents(t *testing.T) {
	for _, birth := range []int{math.MinInt, -1, 1, 7, math.MaxInt} {
		x := usedPair(t)
		x.bend(t, 10, func(s *api.Slot) { s.Dead, s.Kids, s.S.Birth = true, -1, birth })
		tells(t, "Add 5", x.add(t, 5, api.Link{Slot: 10, Birth: birth}), api.OK, 0)
		tells(t, "Add 6", x.add(t, 6, api.Link{Slot: 10, Birth: birth ^ 2}), api.ErrNone, 0)
		is(t, "Kids 10", x.x.Kids(10), 5)
		x.bend(t, 10, func(s *api.Slot) { s.Used = false })
		tells(t, "Add 6", x.add(t, 6, api.Link{Slot: 10, Birth: birth}), api.ErrNone, 0)
		tells(t, "Cut 5", x.cut(t, 5), api.ErrNone, 0)
	}
	x := usedPair(t)
	x.bend(t, 10, func(s *api.Slot) { s.S.Birth = 0 })
	tells(t, "Add 5", x.add(t, 5, api.Link{Slot: 10}), api.OK, 0)
	is(t, "Roots", x.x.Roots(), 5)
}

// P17.2: a parent whose Kids is no slot, but for -1, takes no child; one whose Kids isn't well linked is told by that slot.
func TestAddBehindWrongRings(t *testing.T) {
	for _, kids := range numbers() {
		x := usedPair(t)
		x.bend(t, 10, func(s *api.Slot) { s.Kids = kids })
		want, at := api.ErrArg, 0
		if slot(kids) {
			want, at = api.ErrState, kids
		} else if kids == -1 {
			want = api.OK
		}
		tells(t, "Add 6", x.add(t, 6, below(10)), want, at)
	}
	x := family(t)
	x.bend(t, 5, func(s *api.Slot) { s.Next = 31 })
	tells(t, "Add 6 behind 5", x.add(t, 6, below(10)), api.ErrState, 5)
	tells(t, "Add 5 itself", x.add(t, 5, below(10)), api.ErrState, 5)
	x.bend(t, 10, func(s *api.Slot) { s.Prev = 10 })
	tells(t, "Add 6 behind 30", x.add(t, 6, root()), api.ErrState, 30)
	tells(t, "Add 7 behind 4", x.add(t, 7, below(2)), api.OK, 0)
}

// P17.2: of its ring only the last one and the first one are refused, as ring.Push says; a circle upwards is not asked.
func TestAddOfHung(t *testing.T) {
	for i := range 32 {
		for _, up := range []int{-1, 10, 20, 31, 2, 4} {
			x := family(t)
			l := root()
			if up != -1 {
				l = below(up)
			}
			x.add(t, i, l)
			x.hands(t, slots())
		}
	}
	x := family(t)
	tells(t, "Add 10 below 4", x.add(t, 10, below(4)), api.OK, 0)
	is(t, "Under 10", x.x.Under(10), 10)
	is(t, "Under 4", x.x.Under(4), 4, 10)
}

// P17.3: the first, each middle one and the last one, of rings of one slot up to all but the parent.
func TestCutOfEach(t *testing.T) {
	for _, n := range []int{1, 2, 3, 4, 16, 31} {
		for at := range n {
			for _, parent := range []int{-1, 31} {
				x := usedPair(t).hung(t, -1, 31)
				if parent == -1 {
					tells(t, "Cut 31", x.cut(t, 31), api.OK, 0)
				}
				row := rand.New(rand.NewSource(int64(n))).Perm(31)[:n]
				for _, i := range row {
					x.hung(t, parent, i)
				}
				i := row[at]
				was := x.p.slots[i]
				tells(t, "Cut", x.cut(t, i), api.OK, 0)
				left := slices.Delete(slices.Clone(row), at, at+1)
				ring := x.x.Kids(31)
				if parent == -1 {
					ring = x.x.Roots()
				}
				is(t, "left", ring, left...)
				was.Prev, was.Next = -1, -1
				if s, _ := x.a.Get(i); s != was {
					t.Fatalf("what was cut: %+v, want %+v", s, was)
				}
				// A ring from which the last slot is gone has no last one: ring.Drop refuses that ahead of the slot.
				no := api.ErrState
				if n == 1 {
					no = api.ErrArg
				}
				tells(t, "Cut again", x.cut(t, i), no, i)
				x.hung(t, parent, i)
				is(t, "hung again", x.x.Under(i), i)
			}
		}
	}
}

// P17.3: what hangs below a slot that is cut, hangs there still, all generations of it.
func TestCutKeepsBelow(t *testing.T) {
	x := family(t)
	tells(t, "Cut 31", x.cut(t, 31), api.OK, 0)
	is(t, "Kids 10", x.x.Kids(10), 0, 5)
	is(t, "Under 10", x.x.Under(10), 10, 0, 5)
	is(t, "Kids 31", x.x.Kids(31), 1, 2)
	is(t, "Under 31", x.x.Under(31), 31, 1, 2, 4)
	tells(t, "Cut 10", x.cut(t, 10), api.OK, 0)
	is(t, "Roots", x.x.Roots(), 20, 30)
	is(t, "Under 10", x.x.Under(10), 10, 0, 5)
	tells(t, "Cut 4", x.cut(t, 4), api.OK, 0)
	tells(t, "Add 3 below 31", x.add(t, 3, below(31)), api.OK, 0)
	is(t, "Under 31", x.x.Under(31), 31, 1, 2, 3)
}

// P17.3: which of the reasons comes first.
func TestCutWhichFirst(t *testing.T) {
	x := family(t)
	set := func(i int, used bool, up api.Link) {
		x.bend(t, i, func(s *api.Slot) { s.Used, s.S.Up = used, up })
	}
	for _, i := range numbers() {
		if !slot(i) {
			tells(t, "Cut of no slot", x.cut(t, i), api.ErrArg, 0)
		}
	}
	set(6, false, api.Link{Slot: 32, Birth: 1})
	tells(t, "not Used", x.cut(t, 6), api.ErrNone, 0)
	set(6, false, root())
	tells(t, "not Used, a root", x.cut(t, 6), api.ErrNone, 0)
	set(6, false, below(10))
	tells(t, "not Used, a child", x.cut(t, 6), api.ErrNone, 0)
	for _, up := range numbers() {
		if !slot(up) {
			set(6, true, api.Link{Slot: up, Birth: 100 + up})
			tells(t, "a parent that is no slot", x.cut(t, 6), api.ErrNone, 0)
			set(6, true, api.Link{Slot: up})
			tells(t, "a root of which the ring isn't right", x.cut(t, 6), api.ErrState, 6)
		}
	}
	for _, birth := range []int{1, -110, 111, math.MinInt, math.MaxInt} {
		set(6, true, api.Link{Slot: 10, Birth: birth})
		tells(t, "another Birth", x.cut(t, 6), api.ErrNone, 0)
	}
	set(6, true, below(10))
	tells(t, "a child of which the ring isn't right", x.cut(t, 6), api.ErrState, 6)
	set(6, true, below(0))
	tells(t, "a parent without children", x.cut(t, 6), api.ErrArg, 0)
	for _, kids := range []int{math.MinInt, -2, -1, 32, math.MaxInt} {
		x.bend(t, 7, func(s *api.Slot) { s.Kids = kids })
		set(6, true, below(7))
		tells(t, "a parent whose Kids is no slot", x.cut(t, 6), api.ErrArg, 0)
	}
	set(20, true, api.Link{Slot: 6, Birth: 106})
	x.bend(t, 6, func(s *api.Slot) { s.Used = false })
	tells(t, "a parent that isn't Used", x.cut(t, 20), api.ErrNone, 0)
}

// P17.3: without roots a root isn't cut, also one that is well linked.
func TestCutWithoutRoots(t *testing.T) {
	x := usedPair(t)
	x.bend(t, 6, func(s *api.Slot) { s.Prev, s.Next, s.S.Up = 6, 6, root() })
	tells(t, "Cut 6", x.cut(t, 6), api.ErrArg, 0)
	x.hung(t, -1, 8)
	tells(t, "Cut 6", x.cut(t, 6), api.OK, 0)
	if x.x.Last() != 8 {
		t.Errorf("Last: %d", x.x.Last())
	}
}

// P17.3: what ring.Drop answers is the parent's Kids, also where links were bent past the tree.
func TestCutOfBent(t *testing.T) {
	x := usedPair(t)
	x.bend(t, 6, func(s *api.Slot) { s.Prev, s.Next, s.Kids, s.S.Up = 6, 6, 6, below(6) })
	tells(t, "its own child", x.cut(t, 6), api.OK, 0)
	if s, _ := x.a.Get(6); s.Kids != -1 {
		t.Errorf("Kids: %d", s.Kids)
	}
	x = family(t)
	x.bend(t, 31, func(s *api.Slot) { s.S.Up = below(20) }) // in the ring of another parent than it says
	x.bend(t, 20, func(s *api.Slot) { s.Kids = 31 })
	tells(t, "by another parent", x.cut(t, 31), api.OK, 0)
	is(t, "Kids 10", x.x.Kids(10), 0, 5)
	is(t, "Kids 20", x.x.Kids(20), 5, 0)
}

// P17.4: nothing of what is no slot; Under of a slot is that one at least, Used or not.
func TestHandsOfNumbers(t *testing.T) {
	x := family(t)
	for _, i := range numbers() {
		if !slot(i) {
			is(t, "Kids", x.x.Kids(i))
			is(t, "Under", x.x.Under(i))
		}
	}
	x.bend(t, 31, func(s *api.Slot) { s.Used = false })
	is(t, "Kids 31", x.x.Kids(31), 1, 2)
	is(t, "Under 31", x.x.Under(31), 31, 1, 2, 4)
	is(t, "Under 6, whose Kids is 34", x.x.Under(6), 6)
	is(t, "Kids 6", x.x.Kids(6))
	for _, kids := range numbers() {
		x.bend(t, 6, func(s *api.Slot) { s.Kids = kids })
		x.hands(t, []int{6})
	}
	x = newPair()
	for i := range 32 {
		is(t, "bare", x.x.Under(i), i)
	}
}

// P17.4: no slot twice: circles, rings that lead into one another, a slot below two parents.
func TestUnderTwice(t *testing.T) {
	ring := func(x *pair, up int, row ...int) {
		last := row[len(row)-1]
		for n, i := range row {
			x.bend(t, i, func(s *api.Slot) { s.Next, s.Prev = row[(n+1)%len(row)], -1 })
		}
		x.bend(t, up, func(s *api.Slot) { s.Kids = last })
	}
	x := usedPair(t)
	ring(x, 1, 2)
	ring(x, 2, 3)
	ring(x, 3, 1)
	is(t, "a circle", x.x.Under(1), 1, 2, 3)
	is(t, "a circle", x.x.Under(3), 3, 1, 2)

	x = usedPair(t)
	ring(x, 1, 1)
	is(t, "its own child", x.x.Under(1), 1)

	x = usedPair(t)
	ring(x, 1, 2, 3, 4)
	ring(x, 2, 5, 6)
	x.bend(t, 5, func(s *api.Slot) { s.Kids = 4 }) // the same ring again, below the first child
	is(t, "found below a brother", x.x.Under(1), 1, 2, 5, 3, 4, 6)

	x = usedPair(t)
	ring(x, 1, 2, 3)
	x.bend(t, 2, func(s *api.Slot) { s.Kids = 2 })
	ring(x, 3, 4)
	is(t, "brothers as children", x.x.Under(1), 1, 2, 3, 4)

	x = usedPair(t)
	ring(x, 1, 2, 3, 4)
	x.bend(t, 1, func(s *api.Slot) { s.Kids = 9 })
	x.bend(t, 9, func(s *api.Slot) { s.Next = 3 }) // into a ring that it isn't of
	is(t, "a ring that isn't right", x.x.Under(1), 1, 3, 4, 2)
	if l := slices.Collect(x.x.Kids(1)); len(l) != 32 {
		t.Errorf("Kids 1: %v", l)
	}
}

// P17.4: all slots below one another; the child ahead, then all below it, then its brother.
func TestUnderOfAll(t *testing.T) {
	x := usedPair(t).hung(t, -1, 0)
	for i := range 31 {
		x.hung(t, i, i+1)
	}
	is(t, "a chain", x.x.Under(0), slots()...)
	is(t, "a chain", x.x.Under(30), 30, 31)
	x = usedPair(t).hung(t, -1, 31)
	for i := range 31 {
		x.hung(t, 31, i)
	}
	is(t, "a star", x.x.Under(31), append([]int{31}, slots()[:31]...)...)
	x = usedPair(t).hung(t, -1, 1)
	for i := 2; i < 32; i++ {
		x.hung(t, i/2, i)
	}
	is(t, "halves", x.x.Under(3), 3, 6, 12, 24, 25, 13, 26, 27, 7, 14, 28, 29, 15, 30, 31)
}

// P17.4: what is handed out is as the links were when it was got.
func TestAsItWas(t *testing.T) {
	x := family(t)
	roots, kids, under := x.x.Roots(), x.x.Kids(10), x.x.Under(10)
	noKids, alone := x.x.Kids(5), x.x.Under(5)
	asked := func(what string) {
		t.Helper()
		is(t, what, roots, 10, 20, 30)
		is(t, what, kids, 0, 31, 5)
		is(t, what, under, 10, 0, 31, 1, 2, 4, 5)
		is(t, what, noKids)
		is(t, what, alone, 5)
	}
	asked("at once")
	x.hung(t, -1, 11, 10, 12, 5, 13, 4, 14)
	asked("behind Add")
	for _, i := range []int{1, 31, 0, 4, 13, 10, 30} {
		x.cut(t, i)
		asked("behind Cut")
	}
	x.hold(t, 2, api.Slot{})
	asked("behind Put")
	tells(t, "Free", x.a.Free(20), api.OK, 0)
	asked("behind Free")
}

// P17.4: nor is it changed by what is hung or cut amid going over it.
func TestAmidGoingOver(t *testing.T) {
	x := family(t)
	var seen []int
	for i := range x.x.Under(10) {
		seen = append(seen, i)
		x.cut(t, i)
		x.hung(t, -1, i)
	}
	if !slices.Equal(seen, []int{10, 0, 31, 1, 2, 4, 5}) {
		t.Errorf("Under: %v", seen)
	}
	is(t, "Roots", x.x.Roots(), 20, 30, 10, 0, 31, 1, 2, 4, 5)
	seen = nil
	for i := range x.x.Roots() {
		seen = append(seen, i)
		tells(t, "Cut", x.cut(t, i), api.OK, 0)
	}
	if !slices.Equal(seen, []int{20, 30, 10, 0, 31, 1, 2, 4, 5}) {
		t.Errorf("Roots: %v", seen)
	}
	is(t, "Roots", x.x.Roots())
	x = family(t)
	seen = nil
	for i := range x.x.Kids(10) {
		seen = append(seen, i)
		tells(t, "Cut", x.cut(t, i), api.OK, 0)
		x.hung(t, 10, 11+len(seen))
	}
	if !slices.Equal(seen, []int{0, 31, 5}) {
		t.Errorf("Kids: %v", seen)
	}
	is(t, "Kids", x.x.Kids(10), 12, 13, 14)
}

// P17.4: left ahead of its end, gone over again, and twice at once.
func TestLeftAndAgain(t *testing.T) {
	x := family(t)
	for _, got := range []iter.Seq[int]{x.x.Roots(), x.x.Kids(10), x.x.Under(10)} {
		whole := slices.Collect(got)
		for n := range len(whole) + 1 {
			var seen []int
			for i := range got {
				if len(seen) == n {
					break
				}
				seen = append(seen, i)
			}
			if !slices.Equal(seen, whole[:n]) {
				t.Errorf("left behind %d: %v of %v", n, seen, whole)
			}
		}
		count := 0
		for range got {
			is(t, "amid itself", got, whole...)
			count++
		}
		if count != len(whole) {
			t.Errorf("gone over %d, want %d", count, len(whole))
		}
	}
}

// hand are lists of children by parents, -1 for the roots: another plain reading, of P17.6 and P17.7 alone.
type hand map[int][]int

func (h hand) below(i int) []int {
	l := []int{i}
	for _, k := range h[i] {
		l = append(l, h.below(k)...)
	}
	return l
}

func (h hand) drop(up, i int) {
	h[up] = slices.DeleteFunc(h[up], func(k int) bool { return k == i })
}

func (h hand) held(t *testing.T, x *pair) {
	t.Helper()
	is(t, "Roots", x.x.Roots(), h[-1]...)
	for i := range 32 {
		is(t, "Kids", x.x.Kids(i), h[i]...)
		is(t, "Under", x.x.Under(i), h.below(i)...)
	}
}

// P17.6, P17.7: drawn slots are hung and cut, and hung again, as roots and below those that hang.
func TestHungAndCut(t *testing.T) {
	r := rand.New(rand.NewSource(17))
	for range 40 {
		x := usedPair(t)
		h, ups := hand{}, map[int]int{}
		for i := range 32 {
			x.bend(t, i, func(s *api.Slot) { s.Kids = -1 })
		}
		order := r.Perm(32)
		var hung []int
		for _, i := range order {
			up := -1
			if len(hung) > 0 && r.Intn(4) > 0 {
				up = hung[r.Intn(len(hung))]
			}
			x.hung(t, up, i)
			h[up] = append(h[up], i)
			ups[i] = up
			hung = append(hung, i)
			h.held(t, x)
		}
		for range 20 {
			i := order[r.Intn(32)]
			lost := h.below(i)
			tells(t, "Cut", x.cut(t, i), api.OK, 0)
			h.drop(ups[i], i)
			h.held(t, x)
			if len(lost) == 32 {
				continue
			}
			// Those below it hang where nobody looks any more: each is cut, the lowest first, so that it may be hung anew.
			for _, k := range slices.Backward(lost[1:]) {
				tells(t, "Cut", x.cut(t, k), api.OK, 0)
				h.drop(ups[k], k)
			}
			for _, k := range lost {
				up := -1
				if n := r.Intn(33); n < 32 && !slices.Contains(lost[slices.Index(lost, k):], n) {
					up = n
				}
				x.hung(t, up, k)
				h[up] = append(h[up], k)
				ups[k] = up
			}
			h.held(t, x)
		}
	}
}

// P17.7: hung again, it is the last one of its ring, and nothing hangs below it any more.
func TestHungAgain(t *testing.T) {
	x := family(t)
	tells(t, "Cut 31", x.cut(t, 31), api.OK, 0)
	x.hung(t, 10, 31)
	is(t, "Kids 10", x.x.Kids(10), 0, 5, 31)
	is(t, "Under 10", x.x.Under(10), 10, 0, 5, 31)
	is(t, "Kids 31", x.x.Kids(31))
	tells(t, "Cut 10", x.cut(t, 10), api.OK, 0)
	x.hung(t, 30, 10)
	is(t, "Roots", x.x.Roots(), 20, 30)
	is(t, "Under 30", x.x.Under(30), 30, 10)
}

// P17.2 to P17.5: slots whose every link is drawn, most of them wrong, against the plain tree.
func TestDrawnLinks(t *testing.T) {
	r := rand.New(rand.NewSource(71))
	drawn := func() int { return r.Intn(10) - 1 }
	for range 400 {
		x := newPair()
		for i := range 8 {
			x.hold(t, i, api.Slot{Used: r.Intn(8) > 0, Kids: drawn(), Prev: drawn(), Next: drawn(), S: api.Session{
				Birth: r.Intn(3), Up: api.Link{Slot: drawn(), Birth: r.Intn(3)},
			}})
		}
		for range 30 {
			x.hands(t, []int{drawn(), drawn()})
			if r.Intn(3) > 0 {
				x.add(t, drawn(), api.Link{Slot: drawn(), Birth: r.Intn(3)})
			} else {
				x.cut(t, drawn())
			}
		}
	}
}

// P17.2 to P17.5: calls on a tree that is right at first, of which one slot is bent now and then.
func TestBentNowAndThen(t *testing.T) {
	r := rand.New(rand.NewSource(170))
	for range 100 {
		x := family(t)
		for range 30 {
			i, up := r.Intn(32), r.Intn(32)
			switch r.Intn(12) {
			case 0:
				x.bend(t, i, func(s *api.Slot) { s.Next = r.Intn(34) - 1 })
			case 1:
				x.bend(t, i, func(s *api.Slot) { s.Prev = r.Intn(34) - 1 })
			case 2:
				x.bend(t, i, func(s *api.Slot) { s.Kids = r.Intn(34) - 1 })
			case 3, 4, 5:
				x.cut(t, i)
			case 6, 7:
				x.add(t, i, root())
			default:
				x.add(t, i, below(up))
			}
			x.hands(t, []int{i, up})
		}
	}
}

// Two trees know nothing of one another: over two arenas, and of their roots over one.
func TestTwoTrees(t *testing.T) {
	x, y := family(t), usedPair(t)
	is(t, "Roots", y.x.Roots())
	y.hung(t, -1, 10, -1, 4)
	x.same(t, "the other")
	x.hands(t, slots())
	z := New(x.a)
	tells(t, "Add 8", z.Add(8, root()), api.OK, 0)
	is(t, "Roots of the one", x.x.Roots(), 10, 20, 30)
	is(t, "Roots of the other", z.Roots(), 8)
	if x.x.Last() != 30 || z.Last() != 8 {
		t.Errorf("Last: %d, %d", x.x.Last(), z.Last())
	}
}

// Without an arena there are no slots.
func TestNoArena(t *testing.T) {
	x := New(nil)
	for _, i := range numbers() {
		tells(t, "Add", x.Add(i, root()), api.ErrArg, 0)
		tells(t, "Add", x.Add(i, below(i)), api.ErrArg, 0)
		tells(t, "Cut", x.Cut(i), api.ErrArg, 0)
		is(t, "Kids", x.Kids(i))
		is(t, "Under", x.Under(i))
	}
	is(t, "Roots", x.Roots())
	if x.Last() != -1 {
		t.Errorf("Last: %d", x.Last())
	}
}
