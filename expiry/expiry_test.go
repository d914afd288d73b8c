package expiry

import (
	"errors"
	"iter"
	"maps"
	"math"
	"math/rand"
	"slices"
	"strconv"
	"testing"

	"lineage/api"
	"lineage/heap"
)

// tells checks an error's number, against all numbers; no error of this layer has a place.
func tells(t *testing.T, what string, err error, no api.Errno) {
	t.Helper()
	for n := api.OK; n <= api.ErrState+1; n++ {
		want := n == no && no != api.OK
		if errors.Is(err, n) != want {
			t.Fatalf("%s: errors.Is(%v, %d): want just %d", what, err, n, no)
		}
	}
	if no == api.OK && err != nil {
		t.Fatalf("%s: %v: want no error", what, err)
	}
	var f api.Fault
	if errors.As(err, &f) {
		t.Fatalf("%s: a place %+v: want none", what, f)
	}
}

// one is an entry.
type one struct{ slot, birth, deadline int }

func (o one) link() api.Link { return api.Link{Slot: o.slot, Birth: o.birth} }

func links(l []one) []api.Link {
	var out []api.Link
	for _, o := range l {
		out = append(out, o.link())
	}
	return out
}

// The plain expiry: a list of entries that is kept in order, in which what is asked is looked for from its front on.

type plain struct{ l []one }

func (p *plain) set(o one) api.Errno {
	if o.slot < 0 || o.slot > 31 || o.birth < 1 || o.birth > 1048576 || o.deadline < 0 || o.deadline > 1099511627776 {
		return api.ErrArg
	}
	p.forget(o.slot)
	at := 0
	for at < len(p.l) && (p.l[at].deadline < o.deadline || p.l[at].deadline == o.deadline && p.l[at].slot < o.slot) {
		at++
	}
	p.l = slices.Insert(p.l, at, o)
	return api.OK
}

func (p *plain) forget(slot int) bool {
	for n, o := range p.l {
		if o.slot == slot {
			p.l = slices.Delete(p.l, n, n+1)
			return true
		}
	}
	return false
}

// out takes the first one out, if its time is over.
func (p *plain) out(now int) (one, bool) {
	if len(p.l) == 0 || p.l[0].deadline > now {
		return one{}, false
	}
	o := p.l[0]
	p.l = slices.Clone(p.l[1:])
	return o, true
}

// pair is an expiry and the plain one: what is asked of the one is asked of the other, and all that can be seen is held against it.
type pair struct {
	e *Expiry
	p *plain
}

func newPair() *pair { return &pair{e: New(), p: &plain{}} }

// of is a pair in which these are, put in in this order.
func of(t *testing.T, l ...one) *pair {
	t.Helper()
	x := newPair()
	for _, o := range l {
		tells(t, "of", x.set(t, o), api.OK)
	}
	return x
}

func (x *pair) set(t *testing.T, o one) error {
	t.Helper()
	what := "Set " + strconv.Itoa(o.slot) + "/" + strconv.Itoa(o.birth) + " " + strconv.Itoa(o.deadline)
	err := x.e.Set(o.link(), o.deadline)
	tells(t, what, err, x.p.set(o))
	x.same(t, what)
	return err
}

func (x *pair) forget(t *testing.T, slot int) bool {
	t.Helper()
	what := "Forget " + strconv.Itoa(slot)
	got := x.e.Forget(slot)
	if want := x.p.forget(slot); got != want {
		t.Fatalf("%s: %t, want %t", what, got, want)
	}
	x.same(t, what)
	return got
}

// due goes over Due, and does amid what is asked, if anything: each one must be the plain one's first one at that step, gone already.
func (x *pair) due(t *testing.T, now int, amid func(o one)) []one {
	t.Helper()
	return x.goOver(t, "Due "+strconv.Itoa(now), x.e.Due(now), now, -1, amid)
}

// goOver leaves behind n of them; n below 0: not ahead of the end.
func (x *pair) goOver(t *testing.T, what string, got iter.Seq[api.Link], now, n int, amid func(o one)) []one {
	t.Helper()
	var seen []one
	for l := range got {
		want, ok := x.p.out(now)
		if !ok || l != want.link() {
			t.Fatalf("%s: %v behind %v, want %+v, %t", what, l, seen, want, ok)
		}
		x.same(t, what)
		seen = append(seen, want)
		if amid != nil {
			amid(want)
		}
		if len(seen) == n {
			return seen
		}
	}
	if o, ok := x.p.out(now); ok {
		t.Fatalf("%s: at the end behind %v, want %+v", what, seen, o)
	}
	x.same(t, what+", at its end")
	return seen
}

// same holds all that can be seen against the plain one: the next deadline, and what a copy would hand out, and it alone.
func (x *pair) same(t *testing.T, what string) {
	t.Helper()
	x.next(t, what)
	var seen []one
	copied := x.copied(t)
	for range len(x.p.l) + 1 {
		deadline, ok := copied.Next()
		if !ok {
			break
		}
		for _, l := range collect(t, what, copied.Due(deadline)) {
			seen = append(seen, one{l.Slot, l.Birth, deadline})
		}
	}
	if !slices.Equal(seen, x.p.l) {
		t.Fatalf("%s: %v are there, want %v", what, seen, x.p.l)
	}
}

func (x *pair) next(t *testing.T, what string) {
	t.Helper()
	var want one
	if len(x.p.l) > 0 {
		want = x.p.l[0]
	}
	deadline, ok := x.e.Next()
	if deadline != want.deadline || ok != (len(x.p.l) > 0) {
		t.Fatalf("%s: Next: %d, %t, want %d of %d", what, deadline, ok, want.deadline, len(x.p.l))
	}
}

// copied is another expiry with the same inside, in which the slots of the map and those of the heap are the same.
func (x *pair) copied(t *testing.T) *Expiry {
	t.Helper()
	ends, err := heap.New(32)
	tells(t, "copied", err, api.OK)
	for slot, deadline := range x.e.ends.All() {
		tells(t, "copied", ends.Set(slot, deadline), api.OK)
		if x.e.births[slot] == 0 {
			t.Fatalf("slot %d has a deadline and no birth", slot)
		}
	}
	if len(x.e.births) != ends.Len() {
		t.Fatalf("%d slots have births, %d deadlines", len(x.e.births), ends.Len())
	}
	return &Expiry{births: maps.Clone(x.e.births), ends: ends}
}

// holds checks what is there, written out.
func (x *pair) holds(t *testing.T, what string, want ...one) {
	t.Helper()
	x.same(t, what)
	if !slices.Equal(x.p.l, want) {
		t.Fatalf("%s: %v are there, want %v", what, x.p.l, want)
	}
}

// is checks a list of links, written out.
func is(t *testing.T, what string, got []api.Link, want ...api.Link) {
	t.Helper()
	if !slices.Equal(got, want) {
		t.Fatalf("%s: %v, want %v", what, got, want)
	}
}

// collect is all that is handed out: of one that isn't changed amid it no more than one for each slot.
func collect(t *testing.T, what string, got iter.Seq[api.Link]) []api.Link {
	t.Helper()
	var l []api.Link
	for o := range got {
		if l = append(l, o); len(l) > 32 {
			t.Fatalf("%s: no end: %v", what, l)
		}
	}
	return l
}

// hands checks what is handed out, written out.
func hands(t *testing.T, what string, got iter.Seq[api.Link], want ...api.Link) {
	t.Helper()
	is(t, what, collect(t, what, got), want...)
}

func at(slot, birth int) api.Link { return api.Link{Slot: slot, Birth: birth} }

// numbers are the edges of what may be slots, births, deadlines and clocks, and others beside them.
func numbers() []int {
	return []int{math.MinInt, math.MinInt + 1, -1 << 40, -1 << 32, -1<<32 + 1, -32, -31, -2, -1, 0, 1, 2, 30, 31, 32, 33, 63, 64,
		1<<20 - 1, 1 << 20, 1<<20 + 1, 1<<32 - 1, 1 << 32, 1<<32 + 1, 1<<40 - 1, 1 << 40, 1<<40 + 1, math.MaxInt - 1, math.MaxInt}
}

// few are some entries, put in neither by slots nor by deadlines; of one deadline there are three, of another two.
func few() []one {
	return []one{{3, 1, 9}, {30, 8, 4}, {2, 5, 9}, {7, 2, 4}, {31, 4, 9}, {0, 7, 12}, {12, 6, 0}}
}

// inOrder are the same, in order.
func inOrder() []one {
	return []one{{12, 6, 0}, {7, 2, 4}, {30, 8, 4}, {2, 5, 9}, {3, 1, 9}, {31, 4, 9}, {0, 7, 12}}
}

// every is an entry for every slot; deadlines repeat.
func every() []one {
	var l []one
	for n := range 32 {
		slot := n * 13 % 32
		l = append(l, one{slot, 1 + n*n, (n * 7 % 11) * 10})
	}
	return l
}

// perms calls f with all orders of a list.
func perms(l []one, f func([]one)) {
	var put func(ahead, left []one)
	put = func(ahead, left []one) {
		if len(left) == 0 {
			f(ahead)
		}
		for n, o := range left {
			put(append(slices.Clone(ahead), o), slices.Delete(slices.Clone(left), n, n+1))
		}
	}
	put(nil, l)
}

// The chapter's examples, answers written out.
func TestExamples(t *testing.T) {
	e := New()
	if deadline, ok := e.Next(); deadline != 0 || ok || e.Forget(3) {
		t.Errorf("New: Next: %d, %t, or 3 was there", deadline, ok)
	}
	for _, o := range []one{{3, 1, 9}, {2, 5, 9}, {7, 2, 4}, {3, 6, 8}} {
		tells(t, "Set", e.Set(o.link(), o.deadline), api.OK)
	}
	if deadline, ok := e.Next(); deadline != 4 || !ok {
		t.Errorf("Next: %d, %t", deadline, ok)
	}
	hands(t, "Due 8", e.Due(8), at(7, 2), at(3, 6))
	if deadline, ok := e.Next(); deadline != 9 || !ok {
		t.Errorf("Next, later: %d, %t", deadline, ok)
	}
	if !e.Forget(2) || e.Forget(2) {
		t.Error("Forget 2: want yes, then no")
	}
	if deadline, ok := e.Next(); deadline != 0 || ok {
		t.Errorf("Next of none: %d, %t", deadline, ok)
	}
	tells(t, "Set 32/1", e.Set(at(32, 1), 5), api.ErrArg)
	tells(t, "Set 0/0", e.Set(at(0, 0), 5), api.ErrArg)
	tells(t, "Set at -1", e.Set(at(0, 1), -1), api.ErrArg)
	tells(t, "Set past MaxClock", e.Set(at(0, 1), 1099511627777), api.ErrArg)
	hands(t, "refused", e.Due(math.MaxInt))
}

// P21.1: none is in a new one, whatever is asked.
func TestNew(t *testing.T) {
	for _, n := range numbers() {
		x := newPair()
		x.holds(t, "New")
		if x.forget(t, n) || len(x.due(t, n, nil)) > 0 {
			t.Errorf("New: %d: it was there, or is handed out", n)
		}
		x.holds(t, "asked")
		tells(t, "Set", x.set(t, one{31, 1048576, 1099511627776}), api.OK)
		x.holds(t, "Set", one{31, 1048576, 1099511627776})
	}
}

// P21.1: slots, births and deadlines at all edges, each with each, put into one without entries, one with one, and one with an entry for every slot; what is refused leaves it as it was.
func TestSetEdges(t *testing.T) {
	for _, slot := range numbers() {
		for _, birth := range numbers() {
			for _, deadline := range numbers() {
				if slot >= 0 && slot <= 31 && (birth != 1 && deadline != 5) {
					continue // what is taken is taken of each birth and of each deadline; the rest is refused of both
				}
				x := of(t, one{31, 2, 7})
				was := slices.Clone(x.p.l)
				if x.set(t, one{slot, birth, deadline}) != nil {
					x.holds(t, "refused", was...)
				}
			}
		}
	}
	for _, l := range [][]one{nil, {{0, 9, 9}}, few(), every()} {
		for _, n := range numbers() {
			for _, o := range []one{{n, 1, 5}, {0, n, 5}, {31, n, 5}, {0, 1, n}, {31, 1048576, n}} {
				x := of(t, l...)
				was := slices.Clone(x.p.l)
				if x.set(t, o) != nil {
					x.holds(t, "refused", was...)
				}
			}
		}
	}
}

// P21.1: the edges, answers written out.
func TestSetErrors(t *testing.T) {
	e := New()
	for _, x := range []struct {
		o  one
		no api.Errno
	}{
		{one{math.MinInt, 1, 5}, api.ErrArg}, {one{-1, 1, 5}, api.ErrArg}, {one{0, 1, 5}, api.OK}, {one{31, 1, 5}, api.OK}, {one{32, 1, 5}, api.ErrArg}, {one{math.MaxInt, 1, 5}, api.ErrArg},
		{one{1, math.MinInt, 5}, api.ErrArg}, {one{1, -1, 5}, api.ErrArg}, {one{1, 0, 5}, api.ErrArg}, {one{1, 1, 5}, api.OK}, {one{1, 1048576, 5}, api.OK}, {one{1, 1048577, 5}, api.ErrArg}, {one{1, math.MaxInt, 5}, api.ErrArg},
		{one{2, 1, math.MinInt}, api.ErrArg}, {one{2, 1, -1}, api.ErrArg}, {one{2, 1, 0}, api.OK}, {one{2, 1, 1099511627776}, api.OK}, {one{2, 1, 1099511627777}, api.ErrArg}, {one{2, 1, math.MaxInt}, api.ErrArg},
		{one{32, 0, -1}, api.ErrArg}, {one{-1, 1048577, 1099511627777}, api.ErrArg}, {one{}, api.ErrArg},
	} {
		tells(t, "Set "+strconv.Itoa(x.o.slot)+"/"+strconv.Itoa(x.o.birth)+" "+strconv.Itoa(x.o.deadline), e.Set(x.o.link(), x.o.deadline), x.no)
	}
	hands(t, "what is there", e.Due(api.MaxClock), at(0, 1), at(1, 1048576), at(31, 1), at(2, 1))
}

// P21.1: a slot that is set again has its new entry alone, whether it is ahead of the old one, behind it, or of the same deadline.
func TestSetAgain(t *testing.T) {
	for _, l := range [][]one{{{5, 3, 6}}, {{5, 3, 6}, {4, 1, 6}}, append(few(), one{5, 3, 6}), append([]one{{5, 3, 6}}, few()...)} {
		for _, birth := range []int{1, 2, 3, 4, 1048576} {
			for deadline := range 15 {
				x := of(t, l...)
				tells(t, "again", x.set(t, one{5, birth, deadline}), api.OK)
				if len(x.p.l) != len(l) {
					t.Fatalf("%d are there, want %d", len(x.p.l), len(l))
				}
				tells(t, "the same", x.set(t, one{5, birth, deadline}), api.OK)
				x.due(t, deadline, nil)
				if x.forget(t, 5) {
					t.Fatalf("again, %d at %d: an entry more", birth, deadline)
				}
			}
		}
	}
	x := of(t, one{5, 3, 6})
	tells(t, "refused", x.set(t, one{5, 4, -1}), api.ErrArg)
	tells(t, "refused", x.set(t, one{5, 0, 4}), api.ErrArg)
	x.holds(t, "refused", one{5, 3, 6})
	tells(t, "lesser", x.set(t, one{5, 4, 2}), api.OK)
	x.holds(t, "lesser", one{5, 4, 2})
	tells(t, "greater", x.set(t, one{5, 3, 60}), api.OK)
	is(t, "not due any more", links(x.due(t, 59, nil)))
	is(t, "due", links(x.due(t, 60, nil)), at(5, 3))
}

// P21.2: whether there is an entry, of slots at all edges; forgotten twice, and set again.
func TestForget(t *testing.T) {
	for _, l := range [][]one{nil, {{0, 9, 9}}, {{31, 9, 0}}, few(), every()} {
		for _, slot := range numbers() {
			x := of(t, l...)
			was := slices.Clone(x.p.l)
			there := slices.ContainsFunc(l, func(o one) bool { return o.slot == slot })
			if x.forget(t, slot) != there || x.forget(t, slot) {
				t.Fatalf("Forget %d of %v: want %t, then no", slot, l, there)
			}
			x.holds(t, "forgotten", slices.DeleteFunc(slices.Clone(was), func(o one) bool { return o.slot == slot })...)
			for _, o := range was {
				tells(t, "set again", x.set(t, o), api.OK)
			}
			x.holds(t, "set again", was...)
		}
	}
}

// P21.2: a slot that is forgotten isn't handed out, and those beside it are.
func TestForgottenIsNotDue(t *testing.T) {
	for n, o := range inOrder() {
		x := of(t, few()...)
		if !x.forget(t, o.slot) {
			t.Fatalf("Forget %d: it wasn't there", o.slot)
		}
		is(t, "Due", links(x.due(t, 100, nil)), links(slices.Delete(inOrder(), n, n+1))...)
		if x.forget(t, o.slot) {
			t.Fatalf("Forget %d: it was there", o.slot)
		}
	}
}

// P21.2: a deadline of 0 is told with true, none with false.
func TestNext(t *testing.T) {
	e := New()
	for _, x := range []struct {
		do       func()
		deadline int
		ok       bool
	}{
		{func() {}, 0, false},
		{func() { e.Set(at(4, 1), 1099511627776) }, 1099511627776, true},
		{func() { e.Set(at(9, 1), 70) }, 70, true},
		{func() { e.Set(at(2, 1), 71) }, 70, true},
		{func() { e.Set(at(9, 1), 72) }, 71, true},
		{func() { e.Set(at(31, 1), 0) }, 0, true},
		{func() { e.Set(at(32, 1), 0); e.Set(at(9, 0), 0) }, 0, true},
		{func() { e.Forget(31) }, 71, true},
		{func() { hands(t, "Due 71", e.Due(71), at(2, 1)) }, 72, true},
		{func() { e.Forget(4) }, 72, true},
		{func() { hands(t, "Due 72", e.Due(72), at(9, 1)) }, 0, false},
	} {
		x.do()
		for range 2 {
			if deadline, ok := e.Next(); deadline != x.deadline || ok != x.ok {
				t.Fatalf("Next: %d, %t, want %d, %t", deadline, ok, x.deadline, x.ok)
			}
		}
	}
}

// P21.3, P21.4: Due of clocks at all edges, and just below, at and just above each deadline; behind it those are left that are above, as they were.
func TestDue(t *testing.T) {
	for _, l := range [][]one{nil, {{0, 9, 9}}, {{31, 1, 0}}, {{8, 1048576, 1099511627776}}, few(), every()} {
		clocks := numbers()
		for _, o := range l {
			clocks = append(clocks, o.deadline-1, o.deadline, o.deadline+1)
		}
		for _, now := range clocks {
			x := of(t, l...)
			was := slices.Clone(x.p.l)
			cut := 0
			for cut < len(was) && was[cut].deadline <= now {
				cut++
			}
			is(t, "Due "+strconv.Itoa(now), links(x.due(t, now, nil)), links(was[:cut])...)
			x.holds(t, "left", was[cut:]...)
			if deadline, ok := x.e.Next(); ok && deadline <= now {
				t.Fatalf("Due %d: Next: %d", now, deadline)
			}
			is(t, "once more", links(x.due(t, now, nil)))
			x.holds(t, "once more", was[cut:]...)
		}
	}
	x := of(t, few()...)
	for _, now := range []int{math.MinInt, -1} {
		is(t, "Due", links(x.due(t, now, nil)))
	}
	is(t, "Due 0", links(x.due(t, 0, nil)), at(12, 6))
	is(t, "Due 3", links(x.due(t, 3, nil)))
	is(t, "Due 4", links(x.due(t, 4, nil)), at(7, 2), at(30, 8))
	is(t, "Due 11", links(x.due(t, 11, nil)), at(2, 5), at(3, 1), at(31, 4))
	x.holds(t, "left", one{0, 7, 12})
	is(t, "Due of the greatest", links(x.due(t, math.MaxInt, nil)), at(0, 7))
}

// P21.3: Due takes nothing ahead of its being gone over, and goes over what is there then.
func TestDueTakesNothingAhead(t *testing.T) {
	x := of(t, few()...)
	got := x.e.Due(9)
	x.holds(t, "got", inOrder()...)
	x.forget(t, 7)
	x.set(t, one{1, 3, 1})
	x.set(t, one{31, 5, 10})
	x.holds(t, "changed", one{12, 6, 0}, one{1, 3, 1}, one{30, 8, 4}, one{2, 5, 9}, one{3, 1, 9}, one{31, 5, 10}, one{0, 7, 12})
	is(t, "gone over", links(x.goOver(t, "gone over", got, 9, -1, nil)), at(12, 6), at(1, 3), at(30, 8), at(2, 5), at(3, 1))
	x.holds(t, "gone over", one{31, 5, 10}, one{0, 7, 12})
	none := newPair()
	ahead := none.e.Due(5)
	none.set(t, one{4, 4, 5})
	is(t, "there was none", links(none.goOver(t, "there was none", ahead, 5, -1, nil)), at(4, 4))
}

// P21.3: left behind each number of them, those that weren't handed out stay; gone over once more, it hands out those.
func TestDueLeft(t *testing.T) {
	for _, l := range [][]one{{{4, 4, 4}}, few(), every()} {
		all := of(t, l...).p.l
		for n := 1; n <= len(all); n++ {
			x := of(t, l...)
			got := x.e.Due(api.MaxClock)
			is(t, "left", links(x.goOver(t, "left", got, api.MaxClock, n, nil)), links(all[:n])...)
			x.holds(t, "left", all[n:]...)
			is(t, "once more", links(x.goOver(t, "once more", got, api.MaxClock, -1, nil)), links(all[n:])...)
			x.holds(t, "once more")
		}
	}
	x := of(t, few()...)
	calls := 0
	x.e.Due(100)(func(l api.Link) bool { calls++; return false })
	x.p.out(100)
	if calls != 1 {
		t.Errorf("left at the first one: asked %d times", calls)
	}
	x.holds(t, "left at the first one", inOrder()[1:]...)
}

// P21.3: what is due then is handed out each time that it is gone over.
func TestDueOnceMore(t *testing.T) {
	x := of(t, few()...)
	got := x.e.Due(9)
	x.goOver(t, "once", got, 9, -1, nil)
	is(t, "nothing", links(x.goOver(t, "nothing", got, 9, -1, nil)))
	x.holds(t, "nothing", one{0, 7, 12})
	x.set(t, one{0, 8, 9})
	x.set(t, one{6, 9, 3})
	x.set(t, one{12, 6, 10})
	is(t, "more", links(x.goOver(t, "more", got, 9, -1, nil)), at(6, 9), at(0, 8))
	x.holds(t, "more", one{12, 6, 10})
}

// P21.3: the entry is there no more when it is handed out.
func TestHandedOutIsGone(t *testing.T) {
	x := of(t, every()...)
	x.due(t, api.MaxClock, func(o one) {
		if x.forget(t, o.slot) {
			t.Errorf("%d is there still", o.slot)
		}
	})
	x.holds(t, "gone over")
}

// P21.3: what is put in, put in anew, or forgotten amid the going over counts; answers written out.
func TestDueAmidGoingOver(t *testing.T) {
	for _, c := range []struct {
		what string
		amid func(x *pair) // at the second one, 7/2 at 4
		want []api.Link    // behind that one
		left []one
	}{
		{"nothing", func(x *pair) {}, []api.Link{at(30, 8), at(2, 5), at(3, 1), at(31, 4)}, []one{{0, 7, 12}}},
		{"ahead of it, another", func(x *pair) { x.set(t, one{1, 9, 2}) }, []api.Link{at(1, 9), at(30, 8), at(2, 5), at(3, 1), at(31, 4)}, []one{{0, 7, 12}}},
		{"ahead of it, the last one due", func(x *pair) { x.set(t, one{31, 4, 0}) }, []api.Link{at(31, 4), at(30, 8), at(2, 5), at(3, 1)}, []one{{0, 7, 12}}},
		{"ahead of it, at its deadline", func(x *pair) { x.set(t, one{6, 9, 4}) }, []api.Link{at(6, 9), at(30, 8), at(2, 5), at(3, 1), at(31, 4)}, []one{{0, 7, 12}}},
		{"behind it, another", func(x *pair) { x.set(t, one{8, 9, 9}) }, []api.Link{at(30, 8), at(2, 5), at(3, 1), at(8, 9), at(31, 4)}, []one{{0, 7, 12}}},
		{"behind it, one that waited", func(x *pair) { x.set(t, one{2, 6, 4}) }, []api.Link{at(2, 6), at(30, 8), at(3, 1), at(31, 4)}, []one{{0, 7, 12}}},
		{"itself, ahead", func(x *pair) { x.set(t, one{7, 2, 0}) }, []api.Link{at(7, 2), at(30, 8), at(2, 5), at(3, 1), at(31, 4)}, []one{{0, 7, 12}}},
		{"itself, as it was", func(x *pair) { x.set(t, one{7, 2, 4}) }, []api.Link{at(7, 2), at(30, 8), at(2, 5), at(3, 1), at(31, 4)}, []one{{0, 7, 12}}},
		{"itself, of another birth, behind", func(x *pair) { x.set(t, one{7, 3, 9}) }, []api.Link{at(30, 8), at(2, 5), at(3, 1), at(7, 3), at(31, 4)}, []one{{0, 7, 12}}},
		{"itself, not due", func(x *pair) { x.set(t, one{7, 2, 12}) }, []api.Link{at(30, 8), at(2, 5), at(3, 1), at(31, 4)}, []one{{0, 7, 12}, {7, 2, 12}}},
		{"itself, forgotten", func(x *pair) { x.forget(t, 7) }, []api.Link{at(30, 8), at(2, 5), at(3, 1), at(31, 4)}, []one{{0, 7, 12}}},
		{"one handed out earlier", func(x *pair) { x.set(t, one{12, 6, 1}) }, []api.Link{at(12, 6), at(30, 8), at(2, 5), at(3, 1), at(31, 4)}, []one{{0, 7, 12}}},
		{"the next, forgotten", func(x *pair) { x.forget(t, 30) }, []api.Link{at(2, 5), at(3, 1), at(31, 4)}, []one{{0, 7, 12}}},
		{"the last one due, forgotten", func(x *pair) { x.forget(t, 31) }, []api.Link{at(30, 8), at(2, 5), at(3, 1)}, []one{{0, 7, 12}}},
		{"the next, not due any more", func(x *pair) { x.set(t, one{30, 8, 10}) }, []api.Link{at(2, 5), at(3, 1), at(31, 4)}, []one{{30, 8, 10}, {0, 7, 12}}},
		{"the next, of another birth", func(x *pair) { x.set(t, one{30, 1, 4}) }, []api.Link{at(30, 1), at(2, 5), at(3, 1), at(31, 4)}, []one{{0, 7, 12}}},
		{"one that isn't due, due now", func(x *pair) { x.set(t, one{0, 7, 9}) }, []api.Link{at(30, 8), at(0, 7), at(2, 5), at(3, 1), at(31, 4)}, nil},
		{"one that isn't due, put in", func(x *pair) { x.set(t, one{1, 9, 10}) }, []api.Link{at(30, 8), at(2, 5), at(3, 1), at(31, 4)}, []one{{1, 9, 10}, {0, 7, 12}}},
		{"one that isn't due, forgotten", func(x *pair) { x.forget(t, 0) }, []api.Link{at(30, 8), at(2, 5), at(3, 1), at(31, 4)}, nil},
		{"refused", func(x *pair) { x.set(t, one{32, 9, 2}); x.set(t, one{30, 0, 2}); x.forget(t, -1) }, []api.Link{at(30, 8), at(2, 5), at(3, 1), at(31, 4)}, []one{{0, 7, 12}}},
		{"all, forgotten", func(x *pair) {
			for slot := range 32 {
				x.forget(t, slot)
			}
		}, nil, nil},
	} {
		x := of(t, few()...)
		n := 0
		l := x.due(t, 9, func(one) {
			if n++; n == 2 {
				c.amid(x)
			}
		})
		is(t, c.what, links(l), append([]api.Link{at(12, 6), at(7, 2)}, c.want...)...)
		x.holds(t, c.what, c.left...)
	}
}

// P21.3: what is put in amid the last one's handing out counts, too, and what is put in behind the end doesn't come.
func TestDueAmidTheLast(t *testing.T) {
	x := of(t, one{4, 1, 5})
	births := 1
	l := x.due(t, 5, func(o one) {
		if births++; births < 5 {
			x.set(t, one{4, births, 5})
		}
	})
	is(t, "itself, thrice more", links(l), at(4, 1), at(4, 2), at(4, 3), at(4, 4))
	x.holds(t, "itself, thrice more")
	x.set(t, one{4, 5, 5})
	x.holds(t, "behind the end", one{4, 5, 5})
}

// P21.3: two goings over, one amid the other, of the same one and of others: each entry is handed out once.
func TestDueWithinDue(t *testing.T) {
	for _, nows := range [][2]int{{9, 9}, {9, 4}, {4, 9}, {12, 12}, {0, 100}, {100, 0}, {9, -1}} {
		for leave := -1; leave < 4; leave++ {
			x := of(t, few()...)
			outer, inner := x.e.Due(nows[0]), x.e.Due(nows[1])
			if nows[0] == nows[1] {
				inner = outer
			}
			var seen []one
			x.goOver(t, "outer", outer, nows[0], -1, func(o one) {
				seen = append(seen, o)
				if leave != 0 {
					seen = append(seen, x.goOver(t, "inner", inner, nows[1], leave, nil)...)
				}
			})
			for n, o := range seen {
				if slices.Contains(seen[:n], o) {
					t.Fatalf("Due %v: %v: %+v is handed out twice", nows, seen, o)
				}
			}
			if all := append(slices.Clone(seen), x.p.l...); !slices.Equal(all, inOrder()) {
				t.Fatalf("Due %v: %v, and left are %v", nows, seen, x.p.l)
			}
		}
	}
	x := of(t, few()...)
	var inner []one
	outer := x.due(t, 9, func(o one) {
		if o.slot == 7 {
			inner = x.due(t, 100, nil)
		}
	})
	is(t, "outer", links(outer), at(12, 6), at(7, 2))
	is(t, "inner", links(inner), at(30, 8), at(2, 5), at(3, 1), at(31, 4), at(0, 7))
}

// P21.3: a going over that is left by a panic has taken what it handed out, and nothing else.
func TestDueLeftByPanic(t *testing.T) {
	x := of(t, few()...)
	func() {
		defer func() { recover() }()
		for range x.e.Due(9) {
			panic("left")
		}
	}()
	x.p.out(9)
	x.holds(t, "left by a panic", inOrder()[1:]...)
}

// P21.4, P21.5: all orders of putting in make one expiry, and all come out in order.
func TestOrdersOfPuttingIn(t *testing.T) {
	perms(few(), func(l []one) {
		e := New()
		for _, o := range l {
			tells(t, "Set", e.Set(o.link(), o.deadline), api.OK)
		}
		hands(t, "Due", e.Due(api.MaxClock), links(inOrder())...)
		if deadline, ok := e.Next(); deadline != 0 || ok {
			t.Fatalf("Next: %d, %t", deadline, ok)
		}
	})
}

// P21.5: an entry for every slot, in all kinds of orders; all of one deadline, of two, of the least and the greatest, and of deadlines apart.
func TestEverySlot(t *testing.T) {
	r := rand.New(rand.NewSource(31))
	for row := range 200 {
		spans := [][]int{{7}, {7, 8}, {0, 1099511627776}, {0, 1, 1099511627775, 1099511627776}, nil}
		span := spans[row%5]
		e := New()
		var want []one
		for n, slot := range r.Perm(32) {
			deadline := r.Intn(1 << 40)
			if span != nil {
				deadline = span[r.Intn(len(span))]
			}
			o := one{slot, 1 + n*32768, deadline}
			want = append(want, o)
			tells(t, "Set", e.Set(o.link(), o.deadline), api.OK)
		}
		slices.SortFunc(want, func(a, b one) int {
			if a.deadline != b.deadline {
				return a.deadline - b.deadline
			}
			return a.slot - b.slot
		})
		hands(t, "Due", e.Due(api.MaxClock), links(want)...)
	}
}

// P21.1 to P21.5: rows of all that may be asked, against the plain one, of two by turns that know nothing of one another.
func TestRows(t *testing.T) {
	r := rand.New(rand.NewSource(32))
	for row := range 60 {
		pairs := []*pair{newPair(), newPair()}
		span := []int{1, 3, 20, 1000}[row%4] // few deadlines: many like ones
		for range 120 {
			x := pairs[r.Intn(2)]
			switch n := r.Intn(12); {
			case n < 7:
				x.set(t, one{r.Intn(34) - 1, r.Intn(50), r.Intn(span)})
			case n < 9:
				x.forget(t, r.Intn(34)-1)
			case n == 9:
				now := r.Intn(span+2) - 1
				x.goOver(t, "left", x.e.Due(now), now, 1+r.Intn(4), nil)
			case n == 10:
				x.due(t, r.Intn(span+2)-1, func(o one) {
					if r.Intn(3) == 0 {
						x.set(t, one{r.Intn(32), 1 + r.Intn(50), r.Intn(span + span/2 + 2)})
					}
					x.forget(t, r.Intn(32))
				})
			default:
				all := numbers()
				x.set(t, one{all[r.Intn(len(all))], all[r.Intn(len(all))], all[r.Intn(len(all))]})
			}
			for _, y := range pairs {
				y.same(t, "both")
			}
		}
	}
}

// P21.4: as it is used: the clock goes on, and those whose time is over come out, each at the first clock that isn't below its deadline.
func TestByTheClock(t *testing.T) {
	r := rand.New(rand.NewSource(33))
	x := newPair()
	was := -1
	for now, birth := 0, 1; now < 500; now, birth = now+r.Intn(4), birth+1 {
		for _, o := range x.due(t, now, nil) {
			if o.deadline > now || o.deadline <= was {
				t.Fatalf("at %d: %+v comes out", now, o)
			}
		}
		x.set(t, one{r.Intn(32), birth, now + 1 + r.Intn(40)})
		was = now
	}
}

// R5: asking changes nothing.
func TestAskingChangesNothing(t *testing.T) {
	x := of(t, few()...)
	for range 5 {
		x.e.Next()
		x.e.Due(100)
		x.due(t, -1, nil)
		x.forget(t, 1)
		x.forget(t, 32)
		x.holds(t, "asked", inOrder()...)
	}
}

// R4: what the one is asked changes nothing of the other one, nor of what it hands out.
func TestTwo(t *testing.T) {
	x, y := of(t, few()...), of(t, few()...)
	got := y.e.Due(100)
	for _, o := range few() {
		x.set(t, one{o.slot, o.birth + 1, o.deadline + 1})
		y.same(t, "the other one")
	}
	x.due(t, 10, func(one) { y.same(t, "the other one") })
	for slot := range 32 {
		x.forget(t, slot)
		y.same(t, "the other one")
	}
	is(t, "got ahead", links(y.goOver(t, "got ahead", got, 100, -1, nil)), links(inOrder())...)
	x.holds(t, "the first one")
}
