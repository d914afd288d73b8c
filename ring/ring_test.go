package ring

import (
	"errors"
	"math"
	"math/rand"
	"slices"
	"strconv"
	"strings"
	"testing"

	"lineage/api"
	"lineage/arena"
)

// tells checks an error's number, against all numbers; ErrState has the place at, no other error has one.
func tells(t *testing.T, what string, err error, no api.Errno, at int) {
	t.Helper()
	for n := api.OK; n <= api.ErrState+1; n++ {
		want := n == no && no != api.OK
		if errors.Is(err, n) != want {
			t.Fatalf("%s: errors.Is(%v, %d): want just %d", what, err, n, no)
		}
	}
	if no == api.OK && err != nil {
		t.Fatalf("%s: %v: want no error", what, err)
	}
	var f api.Fault
	switch told := errors.As(err, &f); {
	case no != api.ErrState && told:
		t.Fatalf("%s: a place %+v: want none", what, f)
	case no == api.ErrState && (!told || f != api.Fault{No: no, At: at}):
		t.Fatalf("%s: %t, a place %+v: want %d", what, told, f, at)
	}
}

// The plain rings: what each slot holds, changed word by word as the chapter says it.

type plain [32]api.Slot

// answer is what a call answers: the number, or the error and, for ErrState, its place.
type answer struct {
	k  int
	no api.Errno
	at int
}

func slot(i int) bool { return 0 <= i && i <= 31 }

func refused(no api.Errno) answer { return answer{no: no} }

func broken(at int) answer { return answer{no: api.ErrState, at: at} }

func (p *plain) well(i int) bool {
	if !slot(i) || !slot(p[i].Prev) || !slot(p[i].Next) {
		return false
	}
	return p[p[i].Prev].Next == i && p[p[i].Next].Prev == i
}

func (p *plain) push(last, i int) answer {
	if !slot(i) {
		return refused(api.ErrArg)
	}
	if last == -1 {
		p[i].Prev = i
		p[i].Next = i
		return answer{k: i}
	}
	if !slot(last) {
		return refused(api.ErrArg)
	}
	if !p.well(last) {
		return broken(last)
	}
	f := p[last].Next
	if i == last || i == f {
		return refused(api.ErrTwice)
	}
	p[i].Prev = last
	p[i].Next = f
	p[last].Next = i
	p[f].Prev = i
	return answer{k: i}
}

func (p *plain) drop(last, i int) answer {
	if !slot(i) || !slot(last) {
		return refused(api.ErrArg)
	}
	if !p.well(i) {
		return broken(i)
	}
	before, behind := p[i].Prev, p[i].Next
	p[before].Next = behind
	p[behind].Prev = before
	p[i].Prev = -1
	p[i].Next = -1
	if i != last {
		return answer{k: last}
	}
	if before == i {
		return answer{k: -1}
	}
	return answer{k: before}
}

func (p *plain) splice(one, two int) answer {
	if one != -1 && !slot(one) || two != -1 && !slot(two) {
		return refused(api.ErrArg)
	}
	if one == -1 {
		return answer{k: two}
	}
	if two == -1 {
		return answer{k: one}
	}
	if one == two {
		return refused(api.ErrTwice)
	}
	if !p.well(one) {
		return broken(one)
	}
	if !p.well(two) {
		return broken(two)
	}
	f, g := p[one].Next, p[two].Next
	p[one].Next = g
	p[g].Prev = one
	p[two].Next = f
	p[f].Prev = two
	return answer{k: two}
}

func (p *plain) all(last int) []int {
	var l []int
	if !slot(last) {
		return l
	}
	for i := p[last].Next; slot(i); i = p[i].Next {
		l = append(l, i)
		if i == last || len(l) == 32 {
			break
		}
	}
	return l
}

// pair is an arena and the plain rings: what is asked of the one is asked of the other, and all that can be seen is held against it.
type pair struct {
	a    *arena.Arena
	p    *plain
	free []int // which slots are free, the first one first: no call may change it
}

func newPair() pair {
	x := pair{a: arena.New(), p: &plain{}}
	for i := range x.p {
		x.p[i] = api.Slot{Kids: -1, Prev: -1, Next: -1}
		x.free = append(x.free, i)
	}
	return x
}

// marked is what a slot holds beside its links: of each field something, of no two slots the same.
func marked(i, prev, next int) api.Slot {
	n := strconv.Itoa(i)
	return api.Slot{Used: i%2 == 0, Dead: i%3 == 0, Kids: 40 - i, Prev: prev, Next: next, S: api.Session{
		Slot: i + 1, Birth: 100 + i, Up: api.Link{Slot: 31 - i, Birth: 200 + i}, Kind: i % 3, User: "user" + n, Label: "label" + n,
		Scopes: api.Set(1) << i, Level: 2 - i%3, Born: -i, Deadline: math.MaxInt - i, Depth: i + 7,
	}}
}

// markedPair is one whose slots hold something each, and some of which are free, out of order.
func markedPair(t *testing.T) pair {
	t.Helper()
	x := newPair()
	for i := range 32 {
		tells(t, "Place", x.a.Place(i), api.OK, 0)
	}
	x.free = nil
	for _, i := range []int{12, 3, 31, 0, 7} {
		tells(t, "Free", x.a.Free(i), api.OK, 0)
		x.free = append([]int{i}, x.free...)
	}
	for i := range 32 {
		x.hold(t, i, marked(i, -1, -1))
	}
	return x
}

// hold writes a slot past the rings.
func (x pair) hold(t *testing.T, i int, s api.Slot) {
	t.Helper()
	tells(t, "Put", x.a.Put(i, s), api.OK, 0)
	x.p[i] = s
}

// link writes a slot's links past the rings.
func (x pair) link(t *testing.T, i, prev, next int) {
	t.Helper()
	s := x.p[i]
	s.Prev, s.Next = prev, next
	x.hold(t, i, s)
}

func (x pair) push(t *testing.T, last, i int) int {
	t.Helper()
	return x.asked(t, "Push", 3, last, i, Push, x.p.push)
}

func (x pair) drop(t *testing.T, last, i int) int {
	t.Helper()
	return x.asked(t, "Drop", 3, last, i, Drop, x.p.drop)
}

func (x pair) splice(t *testing.T, one, two int) int {
	t.Helper()
	most := 4
	if one == -1 || two == -1 {
		most = 0
	}
	return x.asked(t, "Splice", most, one, two, Splice, x.p.splice)
}

func (x pair) asked(t *testing.T, name string, most, i, k int, call func(*arena.Arena, int, int) (int, error), plainly func(int, int) answer) int {
	t.Helper()
	what := name + " " + strconv.Itoa(i) + ", " + strconv.Itoa(k)
	was := x.a.Writes()
	got, err := call(x.a, i, k)
	want := plainly(i, k)
	tells(t, what, err, want.no, want.at)
	if got != want.k {
		t.Fatalf("%s: %d, want %d", what, got, want.k)
	}
	if want.no != api.OK {
		most = 0
	}
	if n := x.a.Writes() - was; n > most {
		t.Fatalf("%s: %d writes, want at most %d", what, n, most)
	}
	x.same(t, what)
	return got
}

// same holds all that slots hold, and which are free, against the plain rings.
func (x pair) same(t *testing.T, what string) {
	t.Helper()
	for i := range 32 {
		if got, err := x.a.Get(i); err != nil || got != x.p[i] {
			t.Fatalf("%s: slot %d: %+v %v, want %+v", what, i, got, err, x.p[i])
		}
	}
	if got := slices.Collect(x.a.Frees()); !slices.Equal(got, x.free) {
		t.Fatalf("%s: free: %v, want %v", what, got, x.free)
	}
}

// all holds what All hands out against the plain rings; nothing is written.
func (x pair) all(t *testing.T, last int) []int {
	t.Helper()
	was := x.a.Writes()
	got := slices.Collect(All(x.a, last))
	if want := x.p.all(last); !slices.Equal(got, want) {
		t.Fatalf("All %d: %v, want %v", last, got, want)
	}
	if x.a.Writes() != was {
		t.Fatalf("All %d: it has written", last)
	}
	return got
}

// row pushes slots one behind the other, from -1 on.
func (x pair) row(t *testing.T, slots ...int) int {
	t.Helper()
	last := -1
	for _, i := range slots {
		if last = x.push(t, last, i); last != i {
			t.Fatalf("Push: %d, want %d", last, i)
		}
	}
	return last
}

// rung checks that a ring is those slots, in that order, and that each is well linked.
func (x pair) rung(t *testing.T, what string, last int, want ...int) {
	t.Helper()
	end := -1
	if len(want) > 0 {
		end = want[len(want)-1]
	}
	if last != end {
		t.Fatalf("%s: the last one is %d, want %d", what, last, end)
	}
	if got := x.all(t, last); !slices.Equal(got, want) {
		t.Fatalf("%s: %v, want %v", what, got, want)
	}
	for _, i := range want {
		x.wellLinked(t, what, i, true)
	}
}

// wellLinked reads what the chapter calls so from the arena itself.
func (x pair) wellLinked(t *testing.T, what string, i int, want bool) {
	t.Helper()
	s, _ := x.a.Get(i)
	ahead, noAhead := x.a.Get(s.Prev)
	behind, noBehind := x.a.Get(s.Next)
	if got := noAhead == nil && noBehind == nil && ahead.Next == i && behind.Prev == i; got != want {
		t.Fatalf("%s: slot %d well linked: %t, want %t", what, i, got, want)
	}
}

// numbers are the edges of what may be a slot, and others beside them.
func numbers() []int {
	return []int{math.MinInt, math.MinInt + 1, -1 << 32, -33, -32, -2, -1, 0, 1, 5, 30, 31, 32, 33, 64, 1 << 32, 1<<32 + 5, math.MaxInt - 1, math.MaxInt}
}

// everywhere asks the three calls of all pairs of these numbers, each of an arena that fresh has made anew.
func everywhere(t *testing.T, numbers []int, fresh func() pair) {
	t.Helper()
	for _, i := range numbers {
		fresh().all(t, i)
		for _, k := range numbers {
			fresh().push(t, i, k)
			fresh().drop(t, i, k)
			fresh().splice(t, i, k)
		}
	}
}

// up are the numbers from one to another.
func up(from, to int) []int {
	var l []int
	for i := from; i <= to; i++ {
		l = append(l, i)
	}
	return l
}

// The chapter's examples, answers and rings written out.
func TestExamples(t *testing.T) {
	x := newPair()
	x.rung(t, "Push -1, 4", x.push(t, -1, 4), 4)
	x.rung(t, "Push 4, 7", x.push(t, 4, 7), 4, 7)
	x.rung(t, "Push 7, 1", x.push(t, 7, 1), 4, 7, 1)
	for _, e := range []struct {
		last, i int
		no      api.Errno
		at      int
	}{{1, 1, api.ErrTwice, 0}, {1, 4, api.ErrTwice, 0}, {1, 32, api.ErrArg, 0}, {9, 5, api.ErrState, 9}} {
		k, err := Push(x.a, e.last, e.i)
		tells(t, "Push", err, e.no, e.at)
		if k != 0 {
			t.Errorf("Push %d, %d: %d beside an error", e.last, e.i, k)
		}
	}
	x.rung(t, "Drop 1, 7", x.drop(t, 1, 7), 4, 1)
	x.rung(t, "Drop 1, 1", x.drop(t, 1, 1), 4)
	x.rung(t, "Drop 4, 4", x.drop(t, 4, 4))
	k, err := Drop(x.a, 4, 4)
	tells(t, "Drop 4, 4", err, api.ErrState, 4)
	if k != 0 {
		t.Errorf("Drop: %d beside an error", k)
	}

	x = newPair()
	x.row(t, 2, 3)
	x.row(t, 5)
	x.rung(t, "Splice 3, 5", x.splice(t, 3, 5), 2, 3, 5)
	k, err = Splice(x.a, 5, 5)
	tells(t, "Splice 5, 5", err, api.ErrTwice, 0)
	if k != 0 {
		t.Errorf("Splice: %d beside an error", k)
	}
	if k := x.splice(t, -1, 5); k != 5 {
		t.Errorf("Splice -1, 5: %d", k)
	}
}

// P16.1 to P16.5: numbers that are slots, that aren't, and -1, of slots that are bare, and of rings of one, of two and of all.
func TestNumbers(t *testing.T) {
	everywhere(t, numbers(), newPair)
	everywhere(t, numbers(), func() pair { return markedPair(t) })
	for _, rows := range [][][]int{
		{{0}, {31}, {5}},
		{{0, 31}, {30, 1}},
		{{31, 5, 0}, {1, 30}},
		{up(0, 31)},
		{{1}, {30, 5}, {31, 2, 3, 0}},
	} {
		everywhere(t, numbers(), func() pair {
			x := markedPair(t)
			for _, row := range rows {
				x.row(t, row...)
			}
			return x
		})
	}
}

// P16.1: what is no slot is refused as such, also beside a ring that isn't well linked, or the slot twice.
func TestPushArg(t *testing.T) {
	x := markedPair(t)
	last := x.row(t, 4, 7, 1)
	for _, wrong := range numbers() {
		if slot(wrong) {
			continue
		}
		for _, ring := range []int{-1, last, 9, wrong} {
			_, err := Push(x.a, ring, wrong)
			tells(t, "Push of no slot", err, api.ErrArg, 0)
		}
		if wrong == -1 {
			continue
		}
		for i := range 32 {
			_, err := Push(x.a, wrong, i)
			tells(t, "Push behind no slot", err, api.ErrArg, 0)
		}
	}
	x.same(t, "no slots")
}

// P16.1: ErrState comes ahead of ErrTwice: last's Next, or last itself, is pushed where last isn't well linked.
func TestPushStateFirst(t *testing.T) {
	for _, l := range [][2]int{{-1, 5}, {5, -1}, {9, 5}, {5, 9}, {5, 5}, {32, 9}, {9, 32}} {
		x := markedPair(t)
		x.link(t, 9, l[0], l[1])
		for _, i := range []int{9, 5} {
			k, err := Push(x.a, 9, i)
			tells(t, "Push", err, api.ErrState, 9)
			if k != 0 {
				t.Errorf("Push: %d beside an error", k)
			}
		}
		x.same(t, "refused")
	}
}

// P16.1: a slot is pushed behind the ring without slots wherever its links led.
func TestPushBehindNone(t *testing.T) {
	for _, prev := range numbers() {
		for _, next := range numbers() {
			x := markedPair(t)
			x.link(t, 5, prev, next)
			x.rung(t, "Push -1, 5", x.push(t, -1, 5), 5)
		}
	}
}

// P16.1: what i's links say, and what leads to i, is not asked: of its ring only last and its Next are refused.
func TestPushOfLinked(t *testing.T) {
	for n := 1; n <= 6; n++ {
		for i := range 9 {
			x := markedPair(t)
			x.row(t, 6, 7, 8)
			x.push(t, x.row(t, up(0, n-1)...), i)
			for last := range 9 {
				x.all(t, last)
			}
		}
	}
	x := markedPair(t)
	x.row(t, 4, 7, 1, 2)
	if k := x.push(t, 2, 1); k != 1 {
		t.Errorf("Push of the Prev of last: %d", k)
	}
	if l := x.all(t, 1); !slices.Equal(l, []int{4, 7, 1}) {
		t.Errorf("All: %v", l)
	}
}

// P16.2: the first, each middle and the last one, of rings of one slot up to all.
func TestDropOfEach(t *testing.T) {
	for _, n := range []int{1, 2, 3, 4, 5, 16, 31, 32} {
		for at := range n {
			x := markedPair(t)
			row := rand.New(rand.NewSource(int64(n))).Perm(32)[:n]
			last := x.row(t, row...)
			i := row[at]
			k := x.drop(t, last, i)
			x.rung(t, "Drop", k, slices.Delete(slices.Clone(row), at, at+1)...)
			x.wellLinked(t, "dropped", i, false)
			if s, _ := x.a.Get(i); s.Prev != -1 || s.Next != -1 {
				t.Errorf("dropped: %+v", s)
			}
			_, err := Drop(x.a, i, i)
			tells(t, "Drop again", err, api.ErrState, i)
			_, err = Push(x.a, i, (i+1)%32)
			tells(t, "Push behind it", err, api.ErrState, i)
			if k != -1 {
				x.rung(t, "pushed again", x.push(t, k, i), append(slices.Delete(slices.Clone(row), at, at+1), i)...)
			}
		}
	}
}

// P16.2: last is answered as it was, whether it is of i's ring, of another one, or of none.
func TestDropLast(t *testing.T) {
	for last := range 32 {
		for _, i := range []int{4, 7, 1, 20} {
			x := markedPair(t)
			x.row(t, 4, 7, 1)
			x.row(t, 20)
			x.row(t, 9, 10)
			want := last
			if last == i {
				want = map[int]int{4: 1, 7: 4, 1: 7, 20: -1}[i]
			}
			if k := x.drop(t, last, i); k != want {
				t.Errorf("Drop %d, %d: %d, want %d", last, i, k, want)
			}
		}
	}
}

// P16.2: what is no slot comes ahead of a slot that isn't well linked; -1 is no slot here.
func TestDropArg(t *testing.T) {
	x := markedPair(t)
	x.row(t, 4, 7)
	for _, wrong := range numbers() {
		if slot(wrong) {
			continue
		}
		for _, i := range []int{4, 7, 9, -1, 32} {
			for _, l := range [][2]int{{wrong, i}, {i, wrong}} {
				k, err := Drop(x.a, l[0], l[1])
				tells(t, "Drop", err, api.ErrArg, 0)
				if k != 0 {
					t.Errorf("Drop %v: %d beside an error", l, k)
				}
			}
		}
	}
	x.same(t, "no slots")
}

// P16.3: with -1 on either side nothing is asked of the other one, and nothing is written.
func TestSpliceWithNone(t *testing.T) {
	x := markedPair(t)
	x.row(t, 4, 7)
	x.link(t, 9, 3, 40)
	was := x.a.Writes()
	for i := -1; i < 32; i++ {
		for _, l := range [][2]int{{-1, i}, {i, -1}} {
			k, err := Splice(x.a, l[0], l[1])
			tells(t, "Splice", err, api.OK, 0)
			if k != i {
				t.Errorf("Splice %v: %d", l, k)
			}
		}
	}
	if x.a.Writes() != was {
		t.Error("it has written")
	}
	x.same(t, "with -1")
	for _, wrong := range numbers() {
		if slot(wrong) || wrong == -1 {
			continue
		}
		for _, i := range []int{-1, 4, 9, wrong} {
			_, err := Splice(x.a, wrong, i)
			tells(t, "Splice", err, api.ErrArg, 0)
			_, err = Splice(x.a, i, wrong)
			tells(t, "Splice", err, api.ErrArg, 0)
		}
	}
}

// P16.3: the same comes ahead of a slot that isn't well linked, and the one ahead of two.
func TestSpliceWhichFirst(t *testing.T) {
	x := markedPair(t)
	x.row(t, 4, 7)
	for _, e := range []struct {
		one, two int
		no       api.Errno
		at       int
	}{
		{9, 9, api.ErrTwice, 0}, {7, 7, api.ErrTwice, 0},
		{9, 8, api.ErrState, 9}, {8, 9, api.ErrState, 8},
		{9, 7, api.ErrState, 9}, {7, 9, api.ErrState, 9},
		{9, 32, api.ErrArg, 0}, {-2, 9, api.ErrArg, 0},
	} {
		k, err := Splice(x.a, e.one, e.two)
		tells(t, "Splice", err, e.no, e.at)
		if k != 0 {
			t.Errorf("Splice %d, %d: %d beside an error", e.one, e.two, k)
		}
	}
	x.same(t, "refused")
}

// P16.3, P16.6: rings of all sizes, the one's slots and then the other's.
func TestSpliceOfRings(t *testing.T) {
	r := rand.New(rand.NewSource(3))
	for _, n := range []int{0, 1, 2, 3, 15, 31, 32} {
		for _, m := range []int{0, 1, 2, 3, 17, 31, 32} {
			if n+m > 32 {
				continue
			}
			x := markedPair(t)
			slots := r.Perm(32)[:n+m]
			one, two := x.row(t, slots[:n]...), x.row(t, slots[n:]...)
			x.rung(t, "spliced", x.splice(t, one, two), slots...)
		}
	}
}

// P16.3: of two slots of one ring the words hold, too: it falls into two, and spliced again it is whole.
func TestSpliceWithinARing(t *testing.T) {
	for n := 2; n <= 6; n++ {
		for one := range n {
			for two := range n {
				x := markedPair(t)
				x.row(t, up(0, n-1)...)
				x.splice(t, one, two)
				x.all(t, one)
				x.all(t, two)
				x.splice(t, one, two)
				x.all(t, two)
			}
		}
	}
	x := markedPair(t)
	x.row(t, 0, 1, 2, 3, 4)
	x.splice(t, 1, 4)
	x.rung(t, "the one", 1, 0, 1)
	x.rung(t, "the other", 4, 2, 3, 4)
	x.rung(t, "again", x.splice(t, 1, 4), 0, 1, 2, 3, 4)
}

// P16.1 to P16.3: whether a slot is well linked, by all links that it may have and all that may lead back.
func TestWellLinked(t *testing.T) {
	ends := []int{math.MinInt, -2, -1, 0, 5, 6, 7, 31, 32, math.MaxInt}
	for _, prev := range ends {
		for _, next := range ends {
			for _, back := range [][2]int{{5, 5}, {5, -1}, {-1, 5}, {5, 6}, {7, 5}, {-1, -1}, {32, 32}, {7, 6}} {
				fresh := func() pair {
					x := newPair()
					for _, i := range []int{prev, next} {
						if slot(i) {
							x.link(t, i, back[0], back[1])
						}
					}
					x.link(t, 5, prev, next)
					x.link(t, 20, 20, 20)
					return x
				}
				x := fresh()
				x.drop(t, 20, 5)
				x = fresh()
				x.drop(t, 5, 5)
				x = fresh()
				x.push(t, 5, 21)
				x = fresh()
				x.push(t, 20, 5)
				x = fresh()
				x.splice(t, 5, 20)
				x = fresh()
				x.splice(t, 20, 5)
			}
		}
	}
}

// P16.1 to P16.3: one link of a ring that is right is bent: the slot that is told is the one that was asked, not the one that was bent.
func TestBentLinks(t *testing.T) {
	for bent := range 5 {
		for _, to := range []int{math.MinInt, -2, -1, 0, 1, 2, 3, 4, 5, 31, 32, math.MaxInt} {
			for _, next := range []bool{true, false} {
				everywhere(t, up(0, 5), func() pair {
					x := newPair()
					x.row(t, 0, 1, 2, 3, 4)
					x.row(t, 5)
					if next {
						x.link(t, bent, x.p[bent].Prev, to)
					} else {
						x.link(t, bent, to, x.p[bent].Next)
					}
					return x
				})
			}
		}
	}
}

// P16.1 to P16.5: all links among three slots and nowhere, of which most rings are wrong.
func TestAllLinksOfThree(t *testing.T) {
	const ways = 4 * 4 * 4 * 4 * 4 * 4
	for n := range ways {
		x := newPair()
		set := func() {
			rest := n
			for i := range 3 {
				x.link(t, i, rest%4-1, rest/4%4-1)
				rest /= 16
			}
		}
		for i := range 3 {
			set()
			x.all(t, i)
			for k := range 3 {
				quick(t, x, set, i, k)
			}
		}
	}
}

// quick asks the three calls, of slots that set writes ahead of each, and holds the first three slots alone against the plain rings.
func quick(t *testing.T, x pair, set func(), i, k int) {
	t.Helper()
	for n, call := range []func(*arena.Arena, int, int) (int, error){Push, Drop, Splice} {
		set()
		was := x.a.Writes()
		got, err := call(x.a, i, k)
		wrote := x.a.Writes() - was
		want := []func(int, int) answer{x.p.push, x.p.drop, x.p.splice}[n](i, k)
		if got != want.k || !errors.Is(err, want.no) && want.no != api.OK || (err == nil) != (want.no == api.OK) {
			t.Fatalf("call %d of %d, %d: %d %v, want %+v", n, i, k, got, err, want)
		}
		if want.no != api.OK && wrote > 0 || wrote > []int{3, 3, 4}[n] {
			t.Fatalf("call %d of %d, %d: %d writes", n, i, k, wrote)
		}
		for s := range 3 {
			if held, _ := x.a.Get(s); held != x.p[s] {
				t.Fatalf("call %d of %d, %d: slot %d: %+v, want %+v", n, i, k, s, held, x.p[s])
			}
		}
	}
}

// P16.1 to P16.5: slots whose links are drawn, some of them in rings, against the plain rings.
func TestDrawnLinks(t *testing.T) {
	r := rand.New(rand.NewSource(16))
	drawn := func() int { return r.Intn(36) - 2 }
	for range 60 {
		x := markedPair(t)
		slots := r.Perm(32)
		for from := 0; from < 30; {
			to := min(32, from+1+r.Intn(8))
			x.row(t, slots[from:to]...)
			from = to
		}
		for range r.Intn(6) {
			i := r.Intn(32)
			x.link(t, i, drawn(), drawn())
		}
		for range 40 {
			i, k := drawn(), drawn()
			x.all(t, i)
			switch r.Intn(4) {
			case 0:
				x.push(t, i, k)
			case 1:
				x.drop(t, i, k)
			case 2:
				x.splice(t, i, k)
			default: // slots that are in rings, so that most calls do something
				x.drop(t, abs(i)%32, abs(i)%32)
			}
		}
	}
}

func abs(i int) int { return max(i, -i) }

// P16.4: nothing of what is no slot; at most 32 slots; none behind one whose Next is no slot; Prev is not asked.
func TestAllOfWrongLinks(t *testing.T) {
	x := markedPair(t)
	for _, last := range numbers() {
		if l := x.all(t, last); len(l) != 0 {
			t.Errorf("All %d of slots whose links lead nowhere: %v", last, l)
		}
	}
	for i := range 32 {
		x.link(t, i, -1, i)
		if l := x.all(t, i); !slices.Equal(l, []int{i}) {
			t.Errorf("All %d, which leads to itself: %v", i, l)
		}
	}
	for i := range 31 {
		x.link(t, i, 40, (i+1)%31)
	}
	x.link(t, 31, 31, 5) // into a circle that it isn't of
	if l := x.all(t, 31); len(l) != 32 || l[0] != 5 || l[26] != 0 || l[31] != 5 {
		t.Errorf("All 31: %v", l)
	}
	if l := x.all(t, 0); !slices.Equal(l, append(up(1, 30), 0)) {
		t.Errorf("All 0: %v", l)
	}
	for _, end := range []int{math.MinInt, -2, -1, 32, math.MaxInt} {
		x.link(t, 9, -1, end)
		if l := x.all(t, 31); !slices.Equal(l, []int{5, 6, 7, 8, 9}) {
			t.Errorf("All 31 up to what leads to %d: %v", end, l)
		}
		if l := x.all(t, 9); len(l) != 0 {
			t.Errorf("All 9, which leads to %d: %v", end, l)
		}
	}
}

// P16.4: a ring of all slots is handed out whole, and ends by itself.
func TestAllOfAll(t *testing.T) {
	x := markedPair(t)
	order := rand.New(rand.NewSource(4)).Perm(32)
	last := x.row(t, order...)
	x.rung(t, "all", last, order...)
	for at, i := range order {
		x.rung(t, "from amid", i, append(slices.Clone(order[at+1:]), order[:at+1]...)...)
	}
}

// P16.4: what is handed out is as the links were when it was got.
func TestAllAsItWas(t *testing.T) {
	x := markedPair(t)
	last := x.row(t, 4, 7, 1, 9)
	x.row(t, 20, 21)
	got, none, nowhere := All(x.a, last), All(x.a, -1), All(x.a, 15)
	asked := func(what string) {
		t.Helper()
		for range 2 {
			if l := slices.Collect(got); !slices.Equal(l, []int{4, 7, 1, 9}) {
				t.Fatalf("%s: %v", what, l)
			}
			for range none {
				t.Fatalf("%s: there was none", what)
			}
			for range nowhere {
				t.Fatalf("%s: there was none", what)
			}
		}
	}
	asked("at once")
	last = x.push(t, last, 2)
	asked("behind Push")
	last = x.drop(t, last, 4)
	asked("behind Drop")
	x.splice(t, last, 21)
	asked("behind Splice")
	x.row(t, 15)
	asked("behind the first Push of one")
	x.hold(t, 7, api.Slot{})
	asked("behind Put")
	tells(t, "Free", x.a.Free(1), api.OK, 0)
	asked("behind Free")
}

// P16.4: and amid going over it.
func TestAllAmidGoingOver(t *testing.T) {
	x := markedPair(t)
	last := x.row(t, 4, 7, 1, 9)
	var seen []int
	for i := range All(x.a, last) {
		seen = append(seen, i)
		last = x.drop(t, last, i)
	}
	if !slices.Equal(seen, []int{4, 7, 1, 9}) || last != -1 {
		t.Errorf("dropped amid: %v, last %d", seen, last)
	}

	last = x.row(t, 4, 7, 1)
	seen = nil
	for i := range All(x.a, last) {
		seen = append(seen, i)
		last = x.push(t, last, i+10)
	}
	if !slices.Equal(seen, []int{4, 7, 1}) {
		t.Errorf("pushed amid: %v", seen)
	}
	x.rung(t, "pushed amid", last, 4, 7, 1, 14, 17, 11)
}

// P16.4: it may be left ahead of its end, and gone over again, also one going over within another.
func TestAllLeftAndGoneOverAgain(t *testing.T) {
	x := markedPair(t)
	order := []int{9, 2, 30, 4}
	got := All(x.a, x.row(t, order...))
	for n := range len(order) + 1 {
		var seen []int
		for i := range got {
			if len(seen) == n {
				break
			}
			seen = append(seen, i)
		}
		if !slices.Equal(seen, order[:n]) {
			t.Errorf("left behind %d: %v", n, seen)
		}
	}
	calls := 0
	got(func(int) bool { calls++; return false })
	if calls != 1 {
		t.Errorf("left at the first one: asked %d times", calls)
	}
	for range got {
		if inner := slices.Collect(got); !slices.Equal(inner, order) {
			t.Errorf("within: %v", inner)
		}
	}
	x.same(t, "gone over")
}

// P16.5: how often slots are written at most, with slots that are the same too; and that what is asked is written at all.
func TestWrites(t *testing.T) {
	for n := 1; n <= 31; n++ {
		x := markedPair(t)
		last := x.row(t, up(0, n-1)...)
		was := x.a.Writes()
		x.push(t, last, 31)
		x.drop(t, 31, 0)
		if w := x.a.Writes() - was; w < 2 || w > 6 {
			t.Errorf("a ring of %d: %d writes of a Push and a Drop", n, w)
		}
	}
	x := markedPair(t)
	one, two := x.row(t, up(0, 15)...), x.row(t, up(16, 31)...)
	was := x.a.Writes()
	x.splice(t, one, two)
	if w := x.a.Writes() - was; w != 4 {
		t.Errorf("four slots' links change by %d writes", w)
	}
}

// Which slots are free says nothing of their rings, nor does a ring say which are free.
func TestFreeSaysNothing(t *testing.T) {
	x := newPair()
	x.rung(t, "all free", x.row(t, up(0, 31)...), up(0, 31)...)
	x.free = nil
	for i := range 32 {
		k, err := x.a.Take()
		if tells(t, "Take", err, api.OK, 0); k != i {
			t.Fatalf("Take: %d, want %d", k, i)
		}
	}
	x.drop(t, 31, 7)
	x.rung(t, "none free", 31, slices.Delete(up(0, 31), 7, 8)...)
}

// P16.6, P16.7: rows of calls on rings that are rings, against lists of slots.
func TestRows(t *testing.T) {
	r := rand.New(rand.NewSource(7))
	for range 30 {
		x := markedPair(t)
		loose := r.Perm(32)
		var rings [][]int
		lastOf := func(l []int) int {
			if len(l) == 0 {
				return -1
			}
			return l[len(l)-1]
		}
		for range 80 {
			n := r.Intn(len(rings) + 1)
			if n == len(rings) {
				rings = append(rings, nil)
			}
			switch l := rings[n]; r.Intn(8) {
			case 0, 1, 2, 3:
				if len(loose) > 0 {
					i := loose[0]
					loose = loose[1:]
					x.push(t, lastOf(l), i)
					rings[n] = append(l, i)
				}
			case 4, 5, 6:
				if len(l) > 0 {
					at := r.Intn(len(l))
					i := l[at]
					rest := slices.Delete(slices.Clone(l), at, at+1)
					if k := x.drop(t, lastOf(l), i); k != lastOf(rest) {
						t.Fatalf("Drop: the last one is %d, want %d", k, lastOf(rest))
					}
					rings[n], loose = rest, append(loose, i)
				}
			default:
				if m := r.Intn(len(rings)); m != n {
					if len(l) > 0 || len(rings[m]) > 0 {
						x.splice(t, lastOf(l), lastOf(rings[m]))
					}
					rings[n], rings[m] = append(slices.Clone(l), rings[m]...), nil
				}
			}
			for _, l := range rings {
				x.rung(t, "a row", lastOf(l), l...)
			}
			for _, i := range loose {
				x.wellLinked(t, "in no ring", i, false)
			}
		}
	}
}

// R1: without an arena there are no slots.
func TestNoArena(t *testing.T) {
	for _, i := range numbers() {
		for range All(nil, i) {
			t.Errorf("All %d: there is none", i)
		}
		for _, k := range numbers() {
			_, err := Push(nil, i, k)
			tells(t, "Push", err, api.ErrArg, 0)
			_, err = Drop(nil, i, k)
			tells(t, "Drop", err, api.ErrArg, 0)
			if i != -1 || k != -1 {
				_, err = Splice(nil, i, k)
				tells(t, "Splice", err, api.ErrArg, 0)
			}
		}
	}
	last, err := Splice(nil, -1, -1)
	if tells(t, "Splice of none", err, api.OK, 0); last != -1 {
		t.Errorf("Splice of none: %d", last)
	}
}

// R5: two arenas know nothing of one another, and asking changes no answer.
func TestTwoArenas(t *testing.T) {
	x, y := markedPair(t), markedPair(t)
	last := x.row(t, 4, 7, 1)
	other := y.row(t, 1, 7, 4, 2)
	for range 3 {
		x.rung(t, "the one", last, 4, 7, 1)
		y.rung(t, "the other", other, 1, 7, 4, 2)
	}
	x.drop(t, last, 7)
	y.same(t, "the other")
	y.splice(t, other, y.row(t, 9))
	x.same(t, "the one")
}

// Long texts and odd ones stay as they are, through any number of writes.
func TestTextsStay(t *testing.T) {
	x := newPair()
	for i, s := range []string{"", "\x00\xff", "ä", strings.Repeat("x", 5000)} {
		x.hold(t, i, api.Slot{S: api.Session{User: s, Label: s + "!"}})
	}
	for range 20 {
		last := x.row(t, 0, 1, 2, 3)
		for i := range 4 {
			last = x.drop(t, last, i)
		}
	}
}
