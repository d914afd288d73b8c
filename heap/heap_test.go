package heap

import (
	"errors"
	"iter"
	"math"
	"math/rand"
	"slices"
	"strconv"
	"testing"

	"lineage/api"
)

// tells checks an error's number, against all numbers; no error of this layer has a place.
func tells(t *testing.T, what string, err error, no api.Errno) {
	t.Helper()
	for n := api.OK; n <= api.ErrState+1; n++ {
		want := n == no && no != api.OK
		if errors.Is(err, n) != want {
			t.Fatalf("%s: errors.Is(%v, %d): want just %d", what, err, n, no)
		}
	}
	if no == api.OK && err != nil {
		t.Fatalf("%s: %v: want no error", what, err)
	}
	var f api.Fault
	if errors.As(err, &f) {
		t.Fatalf("%s: a place %+v: want none", what, f)
	}
}

// one is a number and its key.
type one struct{ i, key int }

// The plain heap: keys by their numbers, put in order one by one when it is asked.

type plain struct {
	n    int
	keys map[int]int
}

func (p *plain) set(i, key int) api.Errno {
	if i < 0 || i >= p.n {
		return api.ErrArg
	}
	p.keys[i] = key
	return api.OK
}

func (p *plain) drop(i int) bool {
	_, was := p.keys[i]
	delete(p.keys, i)
	return was
}

func (p *plain) all() []one {
	var l []one
	for i, key := range p.keys {
		at := 0
		for at < len(l) && (l[at].key < key || l[at].key == key && l[at].i < i) {
			at++
		}
		l = slices.Insert(l, at, one{i, key})
	}
	return l
}

// pair is a heap and the plain one: what is asked of the one is asked of the other, and all that can be seen is held against it.
type pair struct {
	h *Heap
	p *plain
}

func newPair(t *testing.T, n int) *pair {
	t.Helper()
	h, err := New(n)
	tells(t, "New "+strconv.Itoa(n), err, api.OK)
	return &pair{h: h, p: &plain{n: n, keys: map[int]int{}}}
}

// of is a pair in which these are, set in this order.
func of(t *testing.T, n int, l ...one) *pair {
	t.Helper()
	x := newPair(t, n)
	for _, o := range l {
		tells(t, "of", x.set(t, o.i, o.key), api.OK)
	}
	return x
}

func (x *pair) set(t *testing.T, i, key int) error {
	t.Helper()
	what := "Set " + strconv.Itoa(i) + " " + strconv.Itoa(key)
	err := x.h.Set(i, key)
	tells(t, what, err, x.p.set(i, key))
	x.same(t, what)
	return err
}

func (x *pair) drop(t *testing.T, i int) bool {
	t.Helper()
	what := "Drop " + strconv.Itoa(i)
	got := x.h.Drop(i)
	if want := x.p.drop(i); got != want {
		t.Fatalf("%s: %t, want %t", what, got, want)
	}
	x.same(t, what)
	return got
}

// same holds all that can be asked against the plain one.
func (x *pair) same(t *testing.T, what string) {
	t.Helper()
	want := x.p.all()
	is(t, what, x.h.All(), want...)
	if x.h.Len() != len(want) {
		t.Fatalf("%s: Len: %d, want %d", what, x.h.Len(), len(want))
	}
	x.least(t, what, want)
	for _, i := range append(numbers(x.p.n), upTo(min(x.p.n, 64))...) {
		key, ok := x.h.Key(i)
		k, in := x.p.keys[i]
		if key != k || ok != in {
			t.Fatalf("%s: Key %d: %d, %t, want %d, %t", what, i, key, ok, k, in)
		}
	}
	x.kept(t, what)
}

func (x *pair) least(t *testing.T, what string, all []one) {
	t.Helper()
	var want one
	if len(all) > 0 {
		want = all[0]
	}
	i, key, ok := x.h.Least()
	if i != want.i || key != want.key || ok != (len(all) > 0) {
		t.Fatalf("%s: Least: %d, %d, %t, want %+v of %d", what, i, key, ok, want, len(all))
	}
}

// kept holds the heap's inside together: each number in the row stands where it is noted, behind the one above it, and no other one is noted.
func (x *pair) kept(t *testing.T, what string) {
	t.Helper()
	q := &x.h.q
	in := 0
	for _, at := range q.at {
		if at != out {
			in++
		}
	}
	if in != len(q.row) || len(q.at) != x.p.n {
		t.Fatalf("%s: %d of %d are noted, %d in the row of %d numbers", what, in, len(q.at), len(q.row), x.p.n)
	}
	for at, e := range q.row {
		if q.at[e.number] != at {
			t.Fatalf("%s: %d stands at %d, noted at %d", what, e.number, at, q.at[e.number])
		}
		if above := q.row[max(0, at-1)/2]; at > 0 && q.compare(above, e) >= 0 {
			t.Fatalf("%s: %+v stands above %+v", what, above, e)
		}
	}
	for _, e := range q.row[len(q.row):cap(q.row)] {
		if e != (entry[int]{}) {
			t.Fatalf("%s: %+v is kept behind the row", what, e)
		}
	}
}

// is checks what is handed out, gone over twice.
func is(t *testing.T, what string, got iter.Seq2[int, int], want ...one) {
	t.Helper()
	for range 2 {
		if l := collect(got); !slices.Equal(l, want) {
			t.Fatalf("%s: All: %v, want %v", what, l, want)
		}
	}
}

func collect(got iter.Seq2[int, int]) []one {
	var l []one
	for i, key := range got {
		l = append(l, one{i, key})
	}
	return l
}

// numbers are the edges of what may be a number of a heap of n, and others beside them.
func numbers(n int) []int {
	return []int{math.MinInt, math.MinInt + 1, -1 << 32, -65536, -n - 1, -n, -2, -1, 0, 1, n - 2, n - 1, n, n + 1, 65535, 65536, 65537, 1 << 32, 1<<32 + 1, math.MaxInt - 1, math.MaxInt}
}

// edges are keys at the edges, and like ones.
func edges() []int {
	return []int{0, math.MaxInt, math.MinInt, -1, 1, math.MaxInt - 1, math.MinInt + 1, 0, math.MinInt, math.MaxInt, -1 << 32, 1 << 32}
}

// upTo are the numbers 0 to n - 1.
func upTo(n int) []int {
	var l []int
	for i := range n {
		l = append(l, i)
	}
	return l
}

// seven are as many as fill a row of three generations, keys rising and falling.
func seven() []one {
	return []one{{0, 40}, {1, 10}, {2, 60}, {3, 20}, {4, 70}, {5, 30}, {6, 50}}
}

// perms calls f with all orders of a list.
func perms(l []one, f func([]one)) {
	var put func(ahead, left []one)
	put = func(ahead, left []one) {
		if len(left) == 0 {
			f(ahead)
		}
		for n, o := range left {
			put(append(slices.Clone(ahead), o), slices.Delete(slices.Clone(left), n, n+1))
		}
	}
	put(nil, l)
}

// The chapter's examples, answers written out.
func TestExamples(t *testing.T) {
	x := newPair(t, 4)
	for _, o := range []one{{2, 5}, {0, 5}, {3, -1}} {
		tells(t, "Set", x.set(t, o.i, o.key), api.OK)
	}
	if i, key, ok := x.h.Least(); i != 3 || key != -1 || !ok {
		t.Errorf("Least: %d, %d, %t", i, key, ok)
	}
	is(t, "set", x.h.All(), one{3, -1}, one{0, 5}, one{2, 5})
	tells(t, "Set", x.set(t, 3, 9), api.OK)
	if i, key, ok := x.h.Least(); i != 0 || key != 5 || !ok {
		t.Errorf("Least, changed: %d, %d, %t", i, key, ok)
	}
	if !x.drop(t, 0) || x.drop(t, 0) {
		t.Error("Drop 0: want yes, then no")
	}
	if key, ok := x.h.Key(0); key != 0 || ok {
		t.Errorf("Key 0: %d, %t", key, ok)
	}
	if x.h.Len() != 2 {
		t.Errorf("Len: %d", x.h.Len())
	}
	tells(t, "Set 4", x.set(t, 4, 0), api.ErrArg)
	tells(t, "Set -1", x.set(t, -1, 0), api.ErrArg)
	for _, n := range []int{0, 65537} {
		_, err := New(n)
		tells(t, "New", err, api.ErrArg)
	}
}

// P20.1: for how many numbers a heap may be, and that none is in a new one.
func TestNew(t *testing.T) {
	for _, n := range []int{math.MinInt, math.MinInt + 1, -1 << 32, -65536, -1, 0, 65537, 1 << 17, 1 << 32, 1<<32 + 1, math.MaxInt - 1, math.MaxInt} {
		h, err := New(n)
		tells(t, "New "+strconv.Itoa(n), err, api.ErrArg)
		if h != nil {
			t.Errorf("New %d: a heap beside an error", n)
		}
	}
	for _, n := range []int{1, 2, 3, 64, 65535, 65536} {
		x := newPair(t, n)
		x.same(t, "New")
		for _, i := range []int{0, n / 2, n - 1} {
			if x.drop(t, i) {
				t.Errorf("New %d: %d was in it", n, i)
			}
		}
		tells(t, "the last number", x.set(t, n-1, 7), api.OK)
		tells(t, "the first number", x.set(t, 0, 7), api.OK)
		tells(t, "past the last number", x.set(t, n, 7), api.ErrArg)
	}
}

// P20.2: numbers that are the heap's and that aren't, at each call that takes one, of heaps in which none is, one, some, and all; what is refused leaves the heap as it was.
func TestNumbers(t *testing.T) {
	for _, x := range []*pair{
		newPair(t, 1), of(t, 1, one{0, -4}), newPair(t, 2), of(t, 2, one{1, 0}), of(t, 7, seven()[2:5]...), of(t, 7, seven()...),
		newPair(t, 65536), of(t, 65536, one{65535, 3}, one{0, 3}, one{65534, 3}),
	} {
		was := x.p.all()
		for _, i := range numbers(x.p.n) {
			if i >= 0 && i < x.p.n {
				continue
			}
			for _, key := range edges() {
				tells(t, "no number", x.set(t, i, key), api.ErrArg)
			}
			if x.drop(t, i) {
				t.Errorf("Drop %d of %d: it was in it", i, x.p.n)
			}
			is(t, "refused", x.h.All(), was...)
		}
		for _, i := range numbers(x.p.n) {
			_, in := x.p.keys[i]
			if x.drop(t, i) != in || x.drop(t, i) {
				t.Errorf("Drop %d of %d: want %t, then no", i, x.p.n, in)
			}
		}
		for _, i := range numbers(x.p.n) {
			if err := x.set(t, i, -i); err == nil {
				tells(t, "again", x.set(t, i, i), api.OK)
			}
		}
	}
}

// P20.2: any int may be a key, and comes back as it was.
func TestKeys(t *testing.T) {
	l := edges()
	x := newPair(t, len(l))
	for i, key := range l {
		x.set(t, i, key)
	}
	for i, key := range l {
		if got, ok := x.h.Key(i); got != key || !ok {
			t.Errorf("Key %d: %d, %t, want %d", i, got, ok, key)
		}
	}
	is(t, "edges", x.h.All(), one{2, math.MinInt}, one{8, math.MinInt}, one{6, math.MinInt + 1}, one{10, -1 << 32}, one{3, -1},
		one{0, 0}, one{7, 0}, one{4, 1}, one{11, 1 << 32}, one{5, math.MaxInt - 1}, one{1, math.MaxInt}, one{9, math.MaxInt})
	alone := newPair(t, 3)
	for _, key := range l {
		alone.set(t, 2, key)
	}
}

// P20.2: 0 and false of what isn't in it; 0 and true of what is in it with the key 0.
func TestKeyOfNone(t *testing.T) {
	x := of(t, 4, one{2, 9})
	for _, i := range []int{0, 1, 3} {
		if key, ok := x.h.Key(i); key != 0 || ok {
			t.Errorf("Key %d: %d, %t", i, key, ok)
		}
	}
	x.drop(t, 2)
	if key, ok := x.h.Key(2); key != 0 || ok {
		t.Errorf("Key of what was dropped: %d, %t", key, ok)
	}
	x.set(t, 2, 0)
	if key, ok := x.h.Key(2); key != 0 || !ok {
		t.Errorf("Key 0: %d, %t", key, ok)
	}
}

// P20.2: each one of a row is set again, with keys that bring it to each place, and with its own.
func TestSetAgain(t *testing.T) {
	for n := range 8 {
		for _, o := range seven()[:n] {
			for key := range 16 {
				x := of(t, 7, seven()[:n]...)
				tells(t, "again", x.set(t, o.i, 5*key), api.OK)
				if x.h.Len() != n {
					t.Fatalf("Len: %d, want %d", x.h.Len(), n)
				}
				tells(t, "back", x.set(t, o.i, o.key), api.OK)
				is(t, "back", x.h.All(), of(t, 7, seven()[:n]...).p.all()...)
			}
			for _, key := range edges() {
				x := of(t, 7, seven()[:n]...)
				tells(t, "again", x.set(t, o.i, key), api.OK)
				tells(t, "the same", x.set(t, o.i, key), api.OK)
			}
		}
	}
}

// P20.2, P20.5: each one of a row, at the front, amid and at the end, is dropped, dropped twice, and set again.
func TestDrop(t *testing.T) {
	for n := range 8 {
		for _, o := range seven()[:n] {
			x := of(t, 7, seven()[:n]...)
			was := x.p.all()
			if !x.drop(t, o.i) || x.drop(t, o.i) {
				t.Fatalf("Drop %d of %d: want yes, then no", o.i, n)
			}
			is(t, "dropped", x.h.All(), slices.DeleteFunc(slices.Clone(was), func(w one) bool { return w == o })...)
			tells(t, "set again", x.set(t, o.i, o.key), api.OK)
			is(t, "set again", x.h.All(), was...)
		}
	}
}

// P20.2, P20.4: of each row of two that are dropped one behind the other, what is left is in order.
func TestDropTwo(t *testing.T) {
	perms(seven()[:5], func(l []one) {
		for _, o := range l {
			for _, p := range l {
				x := of(t, 7, l...)
				x.drop(t, o.i)
				x.drop(t, p.i)
			}
		}
	})
}

// P20.2, P20.4: what comes into a dropped one's place, from the end of the row, may be ahead of those above it.
func TestDropLetsOneRise(t *testing.T) {
	x := of(t, 12, one{0, 1}, one{1, 50}, one{2, 2}, one{3, 60}, one{4, 70}, one{5, 3}, one{6, 4}, one{7, 80}, one{8, 90}, one{9, 95}, one{10, 99}, one{11, 5})
	x.drop(t, 7)
	for x.h.Len() > 0 {
		i, _, _ := x.h.Least()
		x.drop(t, i)
	}
}

// P20.3: 0, 0 and false of a heap in which none is: of a new one, and behind the last one's going.
func TestLeastOfNone(t *testing.T) {
	x := newPair(t, 3)
	none := func(what string) {
		t.Helper()
		if i, key, ok := x.h.Least(); i != 0 || key != 0 || ok || x.h.Len() != 0 {
			t.Errorf("%s: Least: %d, %d, %t; Len: %d", what, i, key, ok, x.h.Len())
		}
		is(t, what, x.h.All())
	}
	none("New")
	x.set(t, 2, 9)
	x.drop(t, 2)
	none("dropped")
	x.set(t, 3, 9)
	none("refused")
	x.set(t, 0, 0)
	if i, key, ok := x.h.Least(); i != 0 || key != 0 || !ok {
		t.Errorf("the number 0 of the key 0: %d, %d, %t", i, key, ok)
	}
}

// P20.3: of like keys the lesser number is ahead, in whatever order they were set.
func TestLikeKeys(t *testing.T) {
	for _, key := range edges() {
		want := []one{{1, key}, {3, key}, {4, key}, {5, key}, {9, key}}
		perms(want, func(l []one) {
			is(t, "like keys", of(t, 10, l...).h.All(), want...)
		})
	}
}

// P20.3: what All hands out is as it was when it was got, whatever is set and dropped later.
func TestAllAsItWas(t *testing.T) {
	x := of(t, 9, seven()...)
	was := []one{{1, 10}, {3, 20}, {5, 30}, {0, 40}, {6, 50}, {2, 60}, {4, 70}}
	got := x.h.All()
	asked := func(what string) {
		t.Helper()
		is(t, what, got, was...)
	}
	asked("at once")
	x.set(t, 8, 0)
	asked("behind Set of another one")
	x.set(t, 1, 100)
	asked("behind Set of a greater key")
	x.set(t, 4, -100)
	asked("behind Set of a lesser key")
	x.drop(t, 3)
	asked("behind Drop")
	x.set(t, 9, 1)
	asked("behind what is refused")
	for i := range 9 {
		x.drop(t, i)
	}
	asked("all dropped")
	for i := range 9 {
		x.set(t, i, -i)
	}
	asked("all set again")
	none := newPair(t, 3)
	empty := none.h.All()
	none.set(t, 1, 1)
	is(t, "there was none", empty)
}

// P20.3: and amid the going over.
func TestAllAmidGoingOver(t *testing.T) {
	was := of(t, 9, seven()...).p.all()
	for what, change := range map[string]func(x *pair, o one){
		"dropped":         func(x *pair, o one) { x.drop(t, o.i) },
		"the next":        func(x *pair, o one) { x.drop(t, (o.i+1)%7); x.drop(t, (o.i+2)%7) },
		"to the end":      func(x *pair, o one) { x.set(t, o.i, o.key+1000) },
		"to the front":    func(x *pair, o one) { x.set(t, 6-o.i, -o.key) },
		"more":            func(x *pair, o one) { x.set(t, 7+o.i%2, o.key+1) },
		"dropped and set": func(x *pair, o one) { x.drop(t, o.i); x.set(t, o.i, -o.key); x.set(t, 9, 0) },
	} {
		x := of(t, 9, seven()...)
		var seen []one
		for i, key := range x.h.All() {
			seen = append(seen, one{i, key})
			change(x, one{i, key})
		}
		if !slices.Equal(seen, was) {
			t.Errorf("%s: %v, want %v", what, seen, was)
		}
	}
}

// P20.3: it may be left ahead of its end, and gone over again, also one going over within another.
func TestAllLeftAndGoneOverAgain(t *testing.T) {
	x := of(t, 7, seven()...)
	want := x.p.all()
	got := x.h.All()
	for n := range len(want) + 1 {
		var seen []one
		for i, key := range got {
			if len(seen) == n {
				break
			}
			seen = append(seen, one{i, key})
		}
		if !slices.Equal(seen, want[:n]) {
			t.Errorf("left behind %d: %v", n, seen)
		}
	}
	calls := 0
	got(func(int, int) bool { calls++; return false })
	if calls != 1 {
		t.Errorf("left at the first one: asked %d times", calls)
	}
	outer := 0
	for range got {
		outer++
		if l := collect(got); !slices.Equal(l, want) {
			t.Errorf("within: %v", l)
		}
	}
	if outer != len(want) {
		t.Errorf("with others within: %d", outer)
	}
	x.same(t, "gone over")
}

// outOneByOne takes all out, Least and Drop by turns, which must be All's order.
func (x *pair) outOneByOne(t *testing.T, what string) {
	t.Helper()
	want := collect(x.h.All())
	var seen []one
	for range len(want) {
		i, key, ok := x.h.Least()
		if !ok || !x.h.Drop(i) || !x.p.drop(i) {
			t.Fatalf("%s: Least: %d, %d, %t behind %d of %d", what, i, key, ok, len(seen), len(want))
		}
		seen = append(seen, one{i, key})
	}
	if !slices.Equal(seen, want) {
		t.Fatalf("%s: out one by one: %v, want %v", what, seen, want)
	}
	x.same(t, what+": out")
}

// P20.4, P20.5: all orders of setting make one heap, and they come out in its order; like keys are among them.
func TestOrdersOfSetting(t *testing.T) {
	l := []one{{0, 3}, {1, 1}, {2, 3}, {3, -7}, {4, 1}, {5, 3}}
	want := []one{{3, -7}, {1, 1}, {4, 1}, {0, 3}, {2, 3}, {5, 3}}
	perms(l, func(l []one) {
		h, err := New(6)
		tells(t, "New", err, api.OK)
		x := &pair{h: h, p: of(t, 6).p}
		for _, o := range l {
			tells(t, "Set", h.Set(o.i, o.key), api.OK)
			x.p.set(o.i, o.key)
		}
		x.same(t, "set")
		is(t, "set", h.All(), want...)
		x.outOneByOne(t, "set")
	})
}

// P20.5: numbers that are set and dropped again, at once or later, leave what was.
func TestSetAndDropped(t *testing.T) {
	was := []one{{1, 10}, {3, 20}, {5, 30}, {0, 40}, {6, 50}, {2, 60}, {4, 70}}
	for key := range 16 {
		x := of(t, 9, seven()...)
		x.set(t, 8, 5*key)
		x.drop(t, 8)
		is(t, "at once", x.h.All(), was...)
		x.set(t, 8, 5*key)
		x.set(t, 7, 80-5*key)
		x.set(t, 8, 80-5*key)
		x.drop(t, 7)
		x.drop(t, 8)
		is(t, "later", x.h.All(), was...)
		x.outOneByOne(t, "later")
	}
}

// P20.1 to P20.5: rows of all that may be asked, against the plain heap, of two heaps by turns that know nothing of one another.
func TestRows(t *testing.T) {
	r := rand.New(rand.NewSource(20))
	for row := range 60 {
		pairs := []*pair{newPair(t, 1+r.Intn(40)), newPair(t, 1+r.Intn(40))}
		span := []int{1, 3, 20, 1000}[row%4] // few keys: many like ones
		drops := 1 + row%3
		for range 150 {
			x := pairs[r.Intn(2)]
			i := r.Intn(x.p.n+4) - 2
			switch n := r.Intn(4 + drops); {
			case n < 3:
				x.set(t, i, r.Intn(span)-span/2)
			case n == 3:
				x.set(t, i, edges()[r.Intn(len(edges()))])
			default:
				x.drop(t, i)
			}
			for _, y := range pairs {
				y.same(t, "both")
			}
		}
		for _, x := range pairs {
			x.outOneByOne(t, "row")
		}
	}
}

// P20.3: Least, of what was set and dropped by turns as a queue of deadlines is used.
func TestLeastByTurns(t *testing.T) {
	r := rand.New(rand.NewSource(21))
	x := newPair(t, 32)
	for now := range 400 {
		x.set(t, r.Intn(32), now+r.Intn(50))
		for i, key, ok := x.h.Least(); ok && key <= now; i, key, ok = x.h.Least() {
			if !x.drop(t, i) {
				t.Fatalf("Least: %d isn't in it", i)
			}
		}
	}
}

// P20.1 to P20.4: the greatest heap, with all its numbers.
func TestGreatest(t *testing.T) {
	r := rand.New(rand.NewSource(22))
	h, err := New(65536)
	tells(t, "New", err, api.OK)
	var want []one
	for n, i := range r.Perm(65536) {
		tells(t, "Set", h.Set(i, n), api.OK)
		key := r.Intn(1 << 14)
		tells(t, "again", h.Set(i, key), api.OK)
		want = append(want, one{i, key})
	}
	slices.SortFunc(want, func(a, b one) int {
		if a.key != b.key {
			return a.key - b.key
		}
		return a.i - b.i
	})
	if h.Len() != 65536 {
		t.Fatalf("Len: %d", h.Len())
	}
	if l := collect(h.All()); !slices.Equal(l, want) {
		t.Fatal("All: not in order")
	}
	tells(t, "Set", h.Set(65536, 0), api.ErrArg)
	for n, w := range want {
		i, key, ok := h.Least()
		if (one{i, key}) != w || !ok || !h.Drop(i) {
			t.Fatalf("%d: Least: %d, %d, %t, want %+v", n, i, key, ok, w)
		}
	}
	if _, _, ok := h.Least(); ok || h.Len() != 0 {
		t.Errorf("at the end: %t, %d", ok, h.Len())
	}
}

// R5: asking changes nothing, neither what is asked again nor what is set behind it.
func TestAskingChangesNothing(t *testing.T) {
	x := of(t, 9, seven()...)
	for range 5 {
		x.same(t, "asked again")
		x.drop(t, 8)
		x.h.Key(3)
		x.h.Least()
		for range x.h.All() {
			break
		}
	}
	is(t, "asked", x.h.All(), of(t, 9, seven()...).p.all()...)
}

// R4: what the one heap is asked changes nothing of the other one, nor of what it hands out.
func TestTwoHeaps(t *testing.T) {
	x, y := of(t, 7, seven()...), of(t, 7, seven()...)
	got := y.h.All()
	for i := range 7 {
		x.set(t, i, -i)
		y.same(t, "the other one")
	}
	for i := range 7 {
		x.drop(t, i)
		y.same(t, "the other one")
	}
	is(t, "got ahead", got, y.p.all()...)
}

// The order is the one that is handed in, of whatever keys: here the longest text first.
func TestQueueOfAnotherOrder(t *testing.T) {
	q := newQueue(5, func(a, b string) int { return len(b) - len(a) })
	for i, key := range []string{"a", "ccc", "", "bb", "ddd"} {
		q.set(i, key)
	}
	var seen []int
	for _, e := range q.sorted() {
		seen = append(seen, e.number)
	}
	var out []int
	for len(q.row) > 0 {
		out = append(out, q.row[0].number)
		q.drop(q.row[0].number)
	}
	want := []int{1, 4, 3, 0, 2}
	if !slices.Equal(seen, want) || !slices.Equal(out, want) {
		t.Errorf("sorted: %v, one by one: %v, want %v", seen, out, want)
	}
}
