package arena

import (
	"errors"
	"math"
	"math/rand"
	"slices"
	"strconv"
	"testing"
	"unsafe"

	"lineage/api"
)

// tells checks an error's number, against all numbers; no error of this layer has a place.
func tells(t *testing.T, what string, err error, no api.Errno) {
	t.Helper()
	for n := api.OK; n <= api.ErrState+1; n++ {
		want := n == no && no != api.OK
		if errors.Is(err, n) != want {
			t.Fatalf("%s: errors.Is(%v, %d): want just %d", what, err, n, no)
		}
	}
	if no == api.OK && err != nil {
		t.Fatalf("%s: %v: want no error", what, err)
	}
	var f api.Fault
	if errors.As(err, &f) {
		t.Fatalf("%s: a place %+v: want none", what, f)
	}
}

// The plain arena: what each slot holds, and the list as it is written down, its first one first.

type plain struct {
	holds  [32]api.Slot
	list   []int
	writes int
}

// plainBare is what the chapter calls bare.
func plainBare() api.Slot { return api.Slot{Kids: -1, Prev: -1, Next: -1} }

func plainNew() *plain {
	p := &plain{}
	for i := range 32 {
		p.holds[i] = plainBare()
		p.list = append(p.list, i)
	}
	return p
}

func (p *plain) get(i int) (api.Slot, api.Errno) {
	if i < 0 || i > 31 {
		return api.Slot{}, api.ErrArg
	}
	return p.holds[i], api.OK
}

func (p *plain) put(i int, s api.Slot) api.Errno {
	if i < 0 || i > 31 {
		return api.ErrArg
	}
	p.holds[i] = s
	p.writes++
	return api.OK
}

func (p *plain) take() (int, api.Errno) {
	if len(p.list) == 0 {
		return 0, api.ErrFull
	}
	i := p.list[0]
	p.list = slices.Clone(p.list[1:])
	return i, api.OK
}

func (p *plain) place(i int) api.Errno {
	if i < 0 || i > 31 {
		return api.ErrArg
	}
	var rest []int
	for _, f := range p.list {
		if f != i {
			rest = append(rest, f)
		}
	}
	if len(rest) == len(p.list) {
		return api.ErrNone
	}
	p.list = rest
	return api.OK
}

func (p *plain) give(i int) api.Errno {
	if i < 0 || i > 31 {
		return api.ErrArg
	}
	for _, f := range p.list {
		if f == i {
			return api.ErrTwice
		}
	}
	p.list = append([]int{i}, p.list...)
	p.holds[i] = plainBare()
	p.writes++
	return api.OK
}

// pair is an arena and the plain one: what is asked of the one is asked of the other, and all that can be seen is held against it.
type pair struct {
	a *Arena
	p *plain
}

func newPair() pair { return pair{New(), plainNew()} }

func (x pair) take(t *testing.T) int {
	t.Helper()
	want, no := x.p.take()
	i, err := x.a.Take()
	tells(t, "Take", err, no)
	if i != want {
		t.Fatalf("Take: %d, want %d", i, want)
	}
	x.same(t, "Take")
	return i
}

func (x pair) put(t *testing.T, i int, s api.Slot) {
	t.Helper()
	what := "Put " + strconv.Itoa(i)
	tells(t, what, x.a.Put(i, s), x.p.put(i, s))
	x.same(t, what)
}

func (x pair) place(t *testing.T, i int) {
	t.Helper()
	what := "Place " + strconv.Itoa(i)
	tells(t, what, x.a.Place(i), x.p.place(i))
	x.same(t, what)
}

func (x pair) give(t *testing.T, i int) {
	t.Helper()
	what := "Free " + strconv.Itoa(i)
	tells(t, what, x.a.Free(i), x.p.give(i))
	x.same(t, what)
}

// same asks for all that can be seen and changes nothing.
func (x pair) same(t *testing.T, what string) {
	t.Helper()
	for i := -1; i <= 32; i++ {
		got, err := x.a.Get(i)
		want, no := x.p.get(i)
		tells(t, what+": Get "+strconv.Itoa(i), err, no)
		if got != want {
			t.Fatalf("%s: Get %d: %+v, want %+v", what, i, got, want)
		}
	}
	frees(t, what, x.a, x.p.list)
	if got := x.a.Writes(); got != x.p.writes {
		t.Fatalf("%s: Writes: %d, want %d", what, got, x.p.writes)
	}
}

func frees(t *testing.T, what string, a *Arena, want []int) {
	t.Helper()
	if got := slices.Collect(a.Frees()); !slices.Equal(got, want) {
		t.Fatalf("%s: Frees: %v, want %v", what, got, want)
	}
}

// drained is one of which all slots were taken, in the list's order.
func drained(t *testing.T) pair {
	t.Helper()
	x := newPair()
	for range 32 {
		x.take(t)
	}
	return x
}

// ends are numbers that are no slots.
func ends() []int {
	return []int{math.MinInt, math.MinInt + 1, math.MinInt / 2, -1 << 32, -33, -32, -31, -2, -1, 32, 33, 63, 64, 256, 1 << 16, 1 << 32, 1<<32 + 5, math.MaxInt - 1, math.MaxInt}
}

// contents are slots with any contents, no two of them alike: none of these fields has a meaning here.
func contents() []api.Slot {
	return []api.Slot{
		{},
		plainBare(),
		{Used: true},
		{Used: true, Kids: 3},
		{Dead: true, Kids: -1, Prev: -1, Next: -1},
		{Used: true, Dead: true, Kids: 31, Prev: 0, Next: 32},
		{Kids: math.MinInt, Prev: math.MaxInt, Next: -2},
		{S: api.Session{Slot: -7, Birth: -1}},
		{S: api.Session{User: "ann", Label: "tv"}},
		{S: api.Session{User: "\xff", Label: "\x00"}},
		{Used: true, Dead: true, Kids: 1, Prev: 2, Next: 3, S: api.Session{Slot: 4, Birth: 5, Up: api.Link{Slot: 6, Birth: 7}, Kind: 8, User: "u", Label: "l", Scopes: 9, Level: 10, Born: 11, Deadline: 12, Depth: 13}},
		{Used: true, S: api.Session{Slot: math.MaxInt, Birth: math.MinInt, Up: api.Link{Slot: math.MinInt, Birth: math.MaxInt}, Kind: -1, Scopes: math.MaxUint64, Level: math.MaxInt, Born: math.MinInt, Deadline: math.MaxInt, Depth: -9}},
	}
}

// marked is a slot's contents that tell its number.
func marked(i int) api.Slot {
	return api.Slot{Used: i%2 == 0, Dead: i%3 == 0, Kids: i + 1, Prev: -i, Next: i * i, S: api.Session{Birth: 1000 + i, User: "user" + strconv.Itoa(i), Label: "label" + strconv.Itoa(i)}}
}

// The chapter's examples, one behind the other.
func TestExamples(t *testing.T) {
	a := New()
	for want := range 2 {
		i, err := a.Take()
		tells(t, "Take", err, api.OK)
		if i != want {
			t.Errorf("Take: %d, want %d", i, want)
		}
	}
	tells(t, "Place 5", a.Place(5), api.OK)
	tells(t, "Place 0", a.Place(0), api.ErrNone)
	tells(t, "Place 32", a.Place(32), api.ErrArg)
	tells(t, "Free 1", a.Free(1), api.OK)
	tells(t, "Free 1", a.Free(1), api.ErrTwice)
	tells(t, "Free 7", a.Free(7), api.ErrTwice)
	frees(t, "examples", a, []int{1, 2, 3, 4, 6, 7, 8, 9, 10, 11, 12, 13, 14, 15, 16, 17, 18, 19, 20, 21, 22, 23, 24, 25, 26, 27, 28, 29, 30, 31})
	s := api.Slot{Used: true, Kids: 3}
	tells(t, "Put 0", a.Put(0, s), api.OK)
	got, err := a.Get(0)
	tells(t, "Get 0", err, api.OK)
	if got != s {
		t.Errorf("Get 0: %+v", got)
	}
	tells(t, "Free 0", a.Free(0), api.OK)
	got, err = a.Get(0)
	tells(t, "Get 0", err, api.OK)
	if got != (api.Slot{Used: false, Dead: false, Kids: -1, Prev: -1, Next: -1, S: api.Session{}}) {
		t.Errorf("Get 0: %+v", got)
	}
	if a.Writes() != 3 {
		t.Errorf("Writes: %d", a.Writes())
	}
	for _, i := range []int{-1, 32} {
		_, err = a.Get(i)
		tells(t, "Get "+strconv.Itoa(i), err, api.ErrArg)
	}
}

// P15.1, P15.4: at first all slots are bare and free, 0 first, and nothing was written.
func TestNew(t *testing.T) {
	if api.MaxNodes != 32 {
		t.Fatalf("MaxNodes %d", api.MaxNodes)
	}
	x := newPair()
	x.same(t, "New")
	for i := range 32 {
		if got := x.take(t); got != i {
			t.Errorf("Take: %d, want %d", got, i)
		}
	}
	if x.a.Writes() != 0 {
		t.Errorf("Writes: %d", x.a.Writes())
	}
}

// P15.1, P15.2, P15.3: where there is no slot it is ErrArg, whatever else is so, and nothing has changed.
func TestNoSlot(t *testing.T) {
	half := newPair()
	for i := range 16 {
		half.place(t, 2*i)
	}
	for _, x := range []pair{newPair(), half, drained(t)} {
		for _, i := range ends() {
			what := strconv.Itoa(i)
			got, err := x.a.Get(i)
			tells(t, "Get "+what, err, api.ErrArg)
			if got != (api.Slot{}) {
				t.Errorf("Get %d: %+v beside an error", i, got)
			}
			tells(t, "Put "+what, x.a.Put(i, marked(3)), api.ErrArg)
			tells(t, "Place "+what, x.a.Place(i), api.ErrArg)
			tells(t, "Free "+what, x.a.Free(i), api.ErrArg)
			x.same(t, what)
		}
	}
}

// P15.1: a slot holds whatever is put into it, free or taken, and all others what they held; the list isn't touched.
func TestPut(t *testing.T) {
	for _, x := range []pair{newPair(), drained(t)} {
		for n, s := range contents() {
			for i := range 32 {
				x.put(t, i, s)
			}
			x.put(t, n, marked(n))
			x.put(t, 31, marked(n+50))
			x.put(t, 0, marked(n+60))
		}
	}
}

// P15.1: each slot has contents of its own.
func TestEachSlotApart(t *testing.T) {
	x := newPair()
	for i := range 32 {
		x.put(t, i, marked(i))
	}
	for i := range 32 {
		if got, _ := x.a.Get(i); got != marked(i) {
			t.Errorf("Get %d: %+v", i, got)
		}
	}
}

// P15.2: Take leaves what the slot holds, and tells ErrFull as long as none is free.
func TestTake(t *testing.T) {
	x := newPair()
	for i := range 32 {
		x.put(t, i, marked(i))
	}
	for range 32 {
		i := x.take(t)
		if got, _ := x.a.Get(i); got != marked(i) {
			t.Errorf("Take of %d: it holds %+v", i, got)
		}
	}
	for range 3 {
		i, err := x.a.Take()
		tells(t, "Take", err, api.ErrFull)
		if i != 0 {
			t.Errorf("Take: %d beside an error", i)
		}
		x.same(t, "full")
	}
	x.give(t, 17)
	if i := x.take(t); i != 17 {
		t.Errorf("Take: %d, want 17", i)
	}
	x.take(t)
}

// P15.2: the first, a middle and the last free slot; the others stay in their order, and what the slot holds stays.
func TestPlace(t *testing.T) {
	for first := range 32 {
		x := newPair()
		for i := range 32 {
			x.put(t, i, marked(i))
		}
		x.place(t, first)
		for range 3 {
			x.place(t, first)
		}
		for second := range 32 {
			x.place(t, second)
		}
		if got := slices.Collect(x.a.Frees()); len(got) != 0 {
			t.Errorf("all placed: %v are free", got)
		}
		x.take(t)
	}
}

// P15.2: Place in a list that isn't in the slots' order, from its front, from its middle and from its end.
func TestPlaceInAnyList(t *testing.T) {
	order := []int{7, 31, 0, 16, 3}
	for _, i := range order {
		x := drained(t)
		for _, f := range slices.Backward(order) {
			x.give(t, f)
		}
		frees(t, "given back", x.a, order)
		x.place(t, i)
		at := slices.Index(order, i)
		want := slices.Concat(order[:at], order[at+1:])
		frees(t, "placed", x.a, want)
		for _, f := range want {
			if got := x.take(t); got != f {
				t.Errorf("Take: %d, want %d", got, f)
			}
		}
		x.take(t)
	}
}

// P15.2, P15.3: one free slot, any of them: it is placed or taken once; given back, it is there again.
func TestOneFree(t *testing.T) {
	for i := range 32 {
		x := drained(t)
		x.give(t, i)
		x.give(t, i)
		x.place(t, (i+1)%32)
		x.place(t, i)
		x.place(t, i)
		x.take(t)
		x.give(t, i)
		x.take(t)
		x.take(t)
		x.place(t, i)
	}
}

// P15.3: a slot that was taken, by Take or by Place, is the first one again, and bare, whatever it held; one that is free isn't touched.
func TestFree(t *testing.T) {
	for _, s := range contents() {
		for i := range 32 {
			x := newPair()
			x.put(t, i, s)
			x.give(t, i) // it is free: ErrTwice, and it holds s still
			if got, _ := x.a.Get(i); got != s {
				t.Errorf("Free of a free one: it holds %+v", got)
			}
			x.place(t, i)
			x.give(t, i)
			if got, _ := x.a.Get(i); got != plainBare() {
				t.Errorf("Free of one that was placed: it holds %+v", got)
			}
			x.give(t, i)
			if got := x.take(t); got != i {
				t.Errorf("Take: %d, want %d", got, i)
			}
			x.put(t, i, s)
			x.give(t, i)
			if got, _ := x.a.Get(i); got != plainBare() {
				t.Errorf("Free of one that was taken: it holds %+v", got)
			}
		}
	}
}

// P15.3: Free writes, also where the slot is bare already.
func TestFreeOfABareOne(t *testing.T) {
	x := drained(t)
	for n, i := range []int{5, 31, 0} {
		x.give(t, i)
		if x.a.Writes() != n+1 {
			t.Errorf("Writes: %d, want %d", x.a.Writes(), n+1)
		}
	}
}

// What a slot holds says nothing of whether it is free: Used is a field like any.
func TestUsedSaysNothing(t *testing.T) {
	for _, s := range contents() {
		x := newPair()
		x.place(t, 4)
		for i := range 32 {
			x.put(t, i, s)
		}
		x.place(t, 4)
		x.give(t, 5)
		x.place(t, 5)
		x.give(t, 4)
		if got := x.take(t); got != 4 {
			t.Errorf("Take: %d, want 4", got)
		}
		if got := x.take(t); got != 0 {
			t.Errorf("Take: %d, want 0", got)
		}
	}
}

// P15.4: just the calls of Put and Free that answered nil are counted, also one that puts what is there already.
func TestWrites(t *testing.T) {
	a := New()
	want := func(what string, n int) {
		t.Helper()
		if got := a.Writes(); got != n {
			t.Fatalf("%s: Writes: %d, want %d", what, got, n)
		}
	}
	want("New", 0)
	a.Get(3)
	a.Get(32)
	a.Take()
	a.Place(9)
	a.Place(9)
	a.Place(-1)
	for range a.Frees() {
	}
	a.Put(-1, marked(1))
	a.Put(32, marked(1))
	a.Free(-1)
	a.Free(32)
	a.Free(3)
	want("nothing written", 0)
	a.Put(3, marked(3))
	want("Put", 1)
	a.Put(3, marked(3))
	want("Put of the same", 2)
	a.Put(9, plainBare())
	want("Put into a taken one", 3)
	a.Free(9)
	want("Free", 4)
	a.Free(9)
	want("Free of a free one", 4)
	a.Free(0)
	want("Free", 5)
	for range 32 {
		a.Take()
	}
	a.Take()
	want("taken", 5)
	for i := range 32 {
		a.Free(i)
	}
	want("all given back", 37)
	for range 1000 {
		a.Put(31, api.Slot{})
	}
	want("many", 1037)
}

// P15.4: what Frees hands out is as it was when it was got, whatever is taken, placed or given back later.
func TestFreesAsTheyWere(t *testing.T) {
	x := newPair()
	x.take(t)
	x.take(t)
	x.place(t, 20)
	got := x.a.Frees()
	was := slices.Clone(x.p.list)
	asked := func(what string) {
		t.Helper()
		for range 2 {
			if l := slices.Collect(got); !slices.Equal(l, was) {
				t.Fatalf("%s: %v, want %v", what, l, was)
			}
		}
	}
	asked("at once")
	x.take(t)
	asked("behind Take")
	x.place(t, 31)
	asked("behind Place")
	x.give(t, 0)
	asked("behind Free")
	x.put(t, 6, marked(6))
	asked("behind Put")
	for range 32 {
		x.take(t)
	}
	asked("all taken")
	for i := range 32 {
		x.give(t, 31-i)
	}
	asked("all given back")
	none := drained(t)
	empty := none.a.Frees()
	none.give(t, 3)
	if l := slices.Collect(empty); len(l) != 0 {
		t.Errorf("there was none: %v", l)
	}
}

// P15.4: and amid going over it.
func TestFreesAmidGoingOver(t *testing.T) {
	x := newPair()
	var seen []int
	for i := range x.a.Frees() {
		seen = append(seen, i)
		x.place(t, i)
	}
	if want := plainNew().list; !slices.Equal(seen, want) {
		t.Errorf("placed amid: %v", seen)
	}
	if len(x.p.list) != 0 {
		t.Errorf("%v are free", x.p.list)
	}

	x = newPair()
	for i := range 8 {
		x.place(t, i)
	}
	seen = nil
	for i := range x.a.Frees() {
		seen = append(seen, i)
		if i < 16 {
			x.give(t, i-8)
		}
		x.take(t)
		if i > 20 {
			x.place(t, 52-i)
		}
	}
	if want := plainNew().list[8:]; !slices.Equal(seen, want) {
		t.Errorf("turned amid: %v", seen)
	}

	x = newPair()
	for i := range x.a.Frees() {
		x.place(t, i)
		x.give(t, i)
		x.put(t, i, marked(i))
	}
	var falling []int
	for i := range 32 {
		falling = append(falling, 31-i)
	}
	frees(t, "each placed and given back", x.a, falling)
}

// P15.4: it may be left ahead of its end, and gone over again, also one going over within another.
func TestFreesLeftAndGoneOverAgain(t *testing.T) {
	x := drained(t)
	order := []int{9, 2, 30, 4}
	for _, i := range slices.Backward(order) {
		x.give(t, i)
	}
	got := x.a.Frees()
	for n := range len(order) + 1 {
		var seen []int
		for i := range got {
			if len(seen) == n {
				break
			}
			seen = append(seen, i)
		}
		if !slices.Equal(seen, order[:n]) {
			t.Errorf("left behind %d: %v", n, seen)
		}
	}
	calls := 0
	got(func(int) bool { calls++; return false })
	if calls != 1 {
		t.Errorf("left at the first one: asked %d times", calls)
	}
	for range got {
		var inner []int
		for i := range got {
			inner = append(inner, i)
		}
		if !slices.Equal(inner, order) {
			t.Errorf("within: %v", inner)
		}
	}
	x.same(t, "gone over")
}

// P15.5: each slot is handed out by Frees once, or isn't free; asked by Place, which is undone.
func TestFreeOrNot(t *testing.T) {
	r := rand.New(rand.NewSource(15))
	a := New()
	for range 300 {
		switch i := r.Intn(32); r.Intn(3) {
		case 0:
			a.Take()
		case 1:
			a.Place(i)
		default:
			a.Free(i)
		}
		var times [32]int
		count := 0
		for i := range a.Frees() {
			if i < 0 || i > 31 {
				t.Fatalf("Frees: %d", i)
			}
			times[i]++
			count++
		}
		for i, n := range times {
			if n > 1 {
				t.Fatalf("Frees: %d, %d times", i, n)
			}
			err := a.Place(i)
			if (err == nil) != (n == 1) {
				t.Fatalf("Place %d: %v, and Frees hands it out %d times", i, err, n)
			}
			if err == nil {
				tells(t, "Free", a.Free(i), api.OK)
			} else {
				tells(t, "Place", err, api.ErrNone)
			}
		}
		for range count {
			_, err := a.Take()
			tells(t, "Take", err, api.OK)
		}
		_, err := a.Take()
		tells(t, "Take, none free", err, api.ErrFull)
		for i, n := range times {
			if n == 1 {
				tells(t, "Free", a.Free(i), api.OK)
			}
		}
	}
}

// P15.5: what was given back last is taken first.
func TestLastBackFirstTaken(t *testing.T) {
	r := rand.New(rand.NewSource(16))
	for range 50 {
		x := drained(t)
		order := r.Perm(32)[:1+r.Intn(32)]
		for n, i := range order {
			x.give(t, i)
			if n%5 == 4 { // amid the row: out and in again
				if got := x.take(t); got != i {
					t.Fatalf("Take: %d, want %d", got, i)
				}
				x.give(t, i)
			}
		}
		for _, want := range slices.Backward(order) {
			if got := x.take(t); got != want {
				t.Fatalf("Take: %d, want %d", got, want)
			}
		}
		x.take(t)
	}
}

// P15.1 to P15.5: rows of all that may be asked, against the plain arena, in two arenas by turns that know nothing of one another.
func TestRows(t *testing.T) {
	r := rand.New(rand.NewSource(17))
	for row := range 60 {
		pairs := []pair{newPair(), newPair()}
		gives := 2 + row%3 // some rows tend to a full arena, some to one that is all free
		for range 120 {
			x := pairs[r.Intn(2)]
			i := r.Intn(36) - 2
			switch n := r.Intn(6 + gives); {
			case n < 2:
				x.take(t)
			case n < 4:
				x.place(t, i)
			case n < 6:
				x.put(t, i, contents()[r.Intn(len(contents()))])
			default:
				x.give(t, i)
			}
			for _, y := range pairs {
				y.same(t, "both")
			}
		}
	}
}

// P15.5: of two arenas the one is as it was, whatever is asked of the other.
func TestTwoArenas(t *testing.T) {
	x, y := newPair(), newPair()
	got := y.a.Frees()
	for i := range 32 {
		x.put(t, i, marked(i))
		x.take(t)
		y.same(t, "the other one")
	}
	if l := slices.Collect(got); !slices.Equal(l, plainNew().list) {
		t.Errorf("Frees: %v", l)
	}
	y.place(t, 3)
	y.give(t, 3)
	x.same(t, "the one")
	x.take(t)
	newPair().same(t, "a third one")
}

// R4: what was handed in is not kept: neither what the caller writes into his slot later, nor bytes of a text.
func TestPutIsNotKept(t *testing.T) {
	a := New()
	user, label := []byte("user"), []byte("label")
	s := marked(8)
	s.S.User = unsafe.String(unsafe.SliceData(user), len(user))
	s.S.Label = unsafe.String(unsafe.SliceData(label), len(label))
	tells(t, "Put", a.Put(8, s), api.OK)
	copy(user, "XXXX")
	copy(label, "XXXXX")
	s.Kids, s.S.Birth = 77, 77
	want := marked(8)
	want.S.User, want.S.Label = "user", "label"
	if got, _ := a.Get(8); got != want {
		t.Errorf("Get: %+v, want %+v", got, want)
	}
}

// R4: no two answers share a text's memory, nor does one with the arena or with what was handed in.
func TestTextsAreNewMemory(t *testing.T) {
	a := New()
	s := marked(8)
	tells(t, "Put", a.Put(8, s), api.OK)
	tells(t, "Put", a.Put(9, s), api.OK)
	texts := []string{s.S.User, s.S.Label, a.slots[8].S.User, a.slots[8].S.Label, a.slots[9].S.User, a.slots[9].S.Label}
	for range 2 {
		for _, i := range []int{8, 9} {
			got, err := a.Get(i)
			tells(t, "Get", err, api.OK)
			texts = append(texts, got.S.User, got.S.Label)
			got.Kids = 99
		}
	}
	for i, one := range texts {
		for _, two := range texts[:i] {
			if unsafe.StringData(one) == unsafe.StringData(two) {
				t.Errorf("text %d of %d shares its memory with one ahead of it", i, len(texts))
			}
		}
	}
	for _, i := range []int{8, 9} {
		if got, _ := a.Get(i); got != s {
			t.Errorf("Get %d: %+v", i, got)
		}
	}
}

// R5: asking changes no answer.
func TestAskingChangesNothing(t *testing.T) {
	x := newPair()
	x.take(t)
	x.put(t, 0, marked(0))
	x.give(t, 0)
	x.place(t, 12)
	for range 5 {
		x.same(t, "asked again")
	}
}
