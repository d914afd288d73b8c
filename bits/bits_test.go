package bits

import (
	"errors"
	"math"
	"slices"
	"testing"

	"lineage/api"
)

// full is the set of all numbers.
const full = api.Set(math.MaxUint64)

// plain is a set as chapter 2 words it: for each number, whether it is in.
type plain [64]bool

// plainOf tells a set's numbers by halving its worth, number by number.
func plainOf(s api.Set) plain {
	var p plain
	for i := range p {
		p[i] = s%2 == 1
		s /= 2
	}
	return p
}

// set is the worth of all its numbers.
func (p plain) set() api.Set {
	var s, worth api.Set = 0, 1
	for _, in := range p {
		if in {
			s += worth
		}
		worth *= 2
	}
	return s
}

// numbers are those that are in, rising.
func (p plain) numbers() []int {
	var l []int
	for i, in := range p {
		if in {
			l = append(l, i)
		}
	}
	return l
}

// in tells whether a number is in, at every number.
func (p plain) in(i int) bool { return 0 <= i && i <= 63 && p[i] }

// rows are all a and b for which the chapter's words hold, tried one by one.
func (p plain) rows() [][2]int {
	var l [][2]int
	for a := 0; a < 64; a++ {
		for b := a + 1; b <= 64; b++ {
			if !slices.Contains(p[a:b], false) && !p.in(a-1) && !p.in(b) {
				l = append(l, [2]int{a, b})
			}
		}
	}
	return l
}

// someSets are the edges, and sets of single numbers, of rows, and without a rule.
func someSets() []api.Set {
	l := []api.Set{0, full, 1, 2, 3, 5, 0x21, 1 << 62, 1 << 63, 3 << 62, 1<<63 | 1, full >> 1, full - 1, full>>1 - 1,
		0x5555555555555555, 0xaaaaaaaaaaaaaaaa, 0x00ff00ff00ff00ff, 0xffffffff, 0xffffffff00000000, 0x8000000000000021}
	for i := range 64 {
		l = append(l, 1<<i, full&^(1<<i), full>>i, full<<i)
	}
	x := uint64(88172645463325252)
	for range 100 {
		x ^= x << 13
		x ^= x >> 7
		x ^= x << 17
		l = append(l, api.Set(x), api.Set(x&(x<<1)), api.Set(x|x<<1|x>>2))
	}
	return l
}

// outside are numbers that no set has.
func outside() []int {
	return []int{-1, -2, -63, -64, -65, 64, 65, 127, 128, 1 << 31, 1 << 32, -1 << 32, 1 << 62, math.MaxInt, math.MinInt, math.MinInt + 63}
}

func collectRows(s api.Set) [][2]int {
	var l [][2]int
	for a, b := range Runs(s) {
		l = append(l, [2]int{a, b})
	}
	return l
}

// tells checks an error's number, against all numbers, and its place; at below 0: no place.
func tells(t *testing.T, err error, no api.Errno, at int) {
	t.Helper()
	for n := api.OK; n <= api.ErrState+1; n++ {
		if errors.Is(err, n) != (n == no) {
			t.Errorf("errors.Is(%v, %d): want just %d", err, n, no)
		}
	}
	var f api.Fault
	if found := errors.As(err, &f); found != (at >= 0) || found && f != (api.Fault{No: no, At: at}) {
		t.Errorf("place %v %+v: want %d at %d", found, f, no, at)
	}
}

// P2.1
func TestOf(t *testing.T) {
	for _, c := range []struct {
		l    []int
		want api.Set
	}{
		{nil, 0}, {[]int{}, 0}, {[]int{0}, 1}, {[]int{63}, 1 << 63}, {[]int{0, 63, 5}, 0x8000000000000021}, {[]int{5, 0, 63}, 0x8000000000000021},
		{[]int{3, 2, 1}, 14}, {[]int{1, 2, 1}[:2], 6},
	} {
		if s, err := Of(c.l); s != c.want || err != nil {
			t.Errorf("Of(%v) = %x, %v", c.l, s, err)
		}
	}
	var all []int
	for i := range 64 {
		all = append(all, (i*37+11)%64)
		if s, err := Of([]int{i}); s != plainOf(s).set() || Count(s) != 1 || !Has(s, i) || err != nil {
			t.Errorf("Of(%d) = %x, %v", i, s, err)
		}
	}
	if s, err := Of(all); s != full || err != nil {
		t.Errorf("Of all = %x, %v", s, err)
	}
}

// P2.1: the first that is wrong is told, at its index.
func TestOfWrong(t *testing.T) {
	type wrong struct {
		l  []int
		no api.Errno
		at int
	}
	cases := []wrong{
		{[]int{64}, api.ErrArg, 0}, {[]int{-1, -1}, api.ErrArg, 0}, {[]int{1, 2, 1}, api.ErrTwice, 2}, {[]int{0, 0}, api.ErrTwice, 1}, {[]int{63, 0, 63}, api.ErrTwice, 2},
		{[]int{5, 5, 99}, api.ErrTwice, 1}, {[]int{5, 99, 5}, api.ErrArg, 1}, {[]int{5, 6, 5, 6}, api.ErrTwice, 2}, {[]int{64, 64}, api.ErrArg, 0}, {[]int{1, 64, 64}, api.ErrArg, 1}, {[]int{7, 71}, api.ErrArg, 1}, {[]int{0, -64}, api.ErrArg, 1},
	}
	for _, i := range outside() {
		cases = append(cases, wrong{[]int{i}, api.ErrArg, 0}, wrong{[]int{3, 62, i, 3}, api.ErrArg, 2})
	}
	var all []int
	for i := range 64 {
		all = append(all, i)
		cases = append(cases, wrong{append(slices.Clone(all), i), api.ErrTwice, i + 1}, wrong{append(slices.Clone(all), 0, -1), api.ErrTwice, i + 1})
	}
	for i := range 64 {
		cases = append(cases, wrong{append(slices.Clone(all), i), api.ErrTwice, 64})
	}
	for _, c := range cases {
		s, err := Of(c.l)
		if s != 0 {
			t.Errorf("Of(%v) = %x beside an error", c.l, s)
		}
		tells(t, err, c.no, c.at)
	}
}

// R3, R4: the list is left as it is, and what lies behind its length is not read.
func TestOfLeavesTheList(t *testing.T) {
	l := []int{9, 1, 9, 99}
	if s, err := Of(l[:2]); s != 1<<9|1<<1 || err != nil {
		t.Errorf("Of with spare room = %x, %v", s, err)
	}
	Of(l)
	if !slices.Equal(l, []int{9, 1, 9, 99}) {
		t.Error("the list was changed:", l)
	}
}

// P2.2
func TestHas(t *testing.T) {
	for _, s := range someSets() {
		p := plainOf(s)
		for i := range 64 {
			if Has(s, i) != p[i] {
				t.Errorf("Has(%x, %d) = %v", s, i, !p[i])
			}
		}
		for _, i := range outside() {
			if Has(s, i) {
				t.Errorf("Has(%x, %d)", s, i)
			}
		}
	}
	for i, want := range map[int]bool{0: true, 1: false, 2: true, 64: false, -1: false} {
		if Has(5, i) != want {
			t.Errorf("Has(5, %d) = %v", i, !want)
		}
	}
}

// P2.2
func TestPut(t *testing.T) {
	for _, c := range []struct {
		i    int
		on   bool
		want api.Set
	}{{1, true, 7}, {2, false, 1}, {2, true, 5}, {1, false, 5}, {0, false, 4}, {63, true, 1<<63 | 5}, {63, false, 5}} {
		if s, err := Put(5, c.i, c.on); s != c.want || err != nil {
			t.Errorf("Put(5, %d, %v) = %x, %v", c.i, c.on, s, err)
		}
	}
	for _, s := range someSets() {
		for i := range 64 {
			for _, on := range []bool{true, false} {
				p := plainOf(s)
				p[i] = on
				if got, err := Put(s, i, on); got != p.set() || err != nil {
					t.Errorf("Put(%x, %d, %v) = %x, %v", s, i, on, got, err)
				}
			}
		}
		for _, i := range outside() {
			for _, on := range []bool{true, false} {
				got, err := Put(s, i, on)
				if got != 0 {
					t.Errorf("Put(%x, %d, %v) = %x beside an error", s, i, on, got)
				}
				tells(t, err, api.ErrArg, -1)
			}
		}
	}
}

// P2.3, and P2.6 of the same pairs.
func TestTwoSets(t *testing.T) {
	sets := someSets()
	for _, a := range sets {
		p := plainOf(a)
		if Count(a) != len(p.numbers()) {
			t.Errorf("Count(%x) = %d", a, Count(a))
		}
		for _, b := range append(slices.Clone(sets), a, a>>1, a&(a-1), a|1<<63) {
			checkPlainly(t, a, b)
			checkLaws(t, a, b)
		}
	}
	if Count(0) != 0 || Count(full) != 64 {
		t.Error("Count of none, of all:", Count(0), Count(full))
	}
}

// checkPlainly holds the layer's answers against the plain sets, number by number.
func checkPlainly(t *testing.T, a, b api.Set) {
	t.Helper()
	p, q := plainOf(a), plainOf(b)
	var meet, join, less plain
	within := true
	for i := range 64 {
		meet[i] = p[i] && q[i]
		join[i] = p[i] || q[i]
		less[i] = p[i] && !q[i]
		within = within && (!p[i] || q[i])
	}
	if Meet(a, b) != meet.set() || Join(a, b) != join.set() || Less(a, b) != less.set() || Within(a, b) != within {
		t.Errorf("%x and %x: %x, %x, %x, %v", a, b, Meet(a, b), Join(a, b), Less(a, b), Within(a, b))
	}
}

// checkLaws is P2.6.
func checkLaws(t *testing.T, a, b api.Set) {
	t.Helper()
	meet, join, less := Meet(a, b), Join(a, b), Less(a, b)
	if meet != Meet(b, a) || join != Join(b, a) {
		t.Errorf("%x and %x: it is asked which is first", a, b)
	}
	within := Within(a, b)
	if within != (meet == a) || within != (join == b) || within != (less == 0) {
		t.Errorf("%x within %x: %v", a, b, within)
	}
	if Meet(less, meet) != 0 || Join(less, meet) != a {
		t.Errorf("%x less %x, and what is in both", a, b)
	}
	if Count(join)+Count(meet) != Count(a)+Count(b) {
		t.Errorf("counts of %x and %x", a, b)
	}
}

// P2.4
func TestAll(t *testing.T) {
	for _, s := range someSets() {
		want := plainOf(s).numbers()
		seq := All(s)
		for range 2 {
			if l := slices.Collect(seq); !slices.Equal(l, want) {
				t.Errorf("All(%x) = %v", s, l)
			}
		}
	}
	for i := range All(0) {
		t.Error("All of the empty set:", i)
	}
	if l := slices.Collect(All(full)); len(l) != 64 || l[0] != 0 || l[63] != 63 || !slices.IsSorted(l) {
		t.Error("All of the set of all numbers:", l)
	}
}

// P2.4
func TestRuns(t *testing.T) {
	for _, c := range []struct {
		l    []int
		want [][2]int
	}{
		{nil, nil}, {[]int{0}, [][2]int{{0, 1}}}, {[]int{63}, [][2]int{{63, 64}}}, {[]int{0, 63}, [][2]int{{0, 1}, {63, 64}}}, {[]int{62, 63}, [][2]int{{62, 64}}},
		{[]int{1, 2, 3, 7, 62, 63}, [][2]int{{1, 4}, {7, 8}, {62, 64}}}, {[]int{0, 1, 3}, [][2]int{{0, 2}, {3, 4}}},
	} {
		s, err := Of(c.l)
		if l := collectRows(s); err != nil || !slices.Equal(l, c.want) {
			t.Errorf("Runs of %v = %v, %v", c.l, l, err)
		}
	}
	for _, s := range append(someSets(), allOfTen()...) {
		want := plainOf(s).rows()
		rows := Runs(s)
		for range 2 {
			var l [][2]int
			for a, b := range rows {
				l = append(l, [2]int{a, b})
			}
			if !slices.Equal(l, want) {
				t.Errorf("Runs(%x) = %v", s, l)
			}
		}
	}
	if l := collectRows(full); !slices.Equal(l, [][2]int{{0, 64}}) {
		t.Error("Runs of the set of all numbers:", l)
	}
}

// allOfTen are all sets of five numbers at either end.
func allOfTen() []api.Set {
	var l []api.Set
	for x := range api.Set(1 << 10) {
		l = append(l, x&31|x>>5<<59)
	}
	return l
}

// P2.4: both may be left behind each of what they hand out, and gone over again; two goings over don't touch one another.
func TestLeftAhead(t *testing.T) {
	for _, s := range []api.Set{0, full, 1, 1 << 63, 0x5555555555555555, 0b10001110 | 3<<62} {
		all, rows := plainOf(s).numbers(), plainOf(s).rows()
		seq, runs := All(s), Runs(s)
		for n := 1; n <= len(all); n++ {
			if l := firstOf(seq, n); !slices.Equal(l, all[:n]) {
				t.Errorf("All(%x), left behind %d: %v", s, n, l)
			}
		}
		for n := 1; n <= len(rows); n++ {
			if l := firstRows(runs, n); !slices.Equal(l, rows[:n]) {
				t.Errorf("Runs(%x), left behind %d: %v", s, n, l)
			}
		}
		for i := range seq {
			if l := slices.Collect(seq); !slices.Equal(l, all) {
				t.Errorf("All(%x) inside of itself, at %d: %v", s, i, l)
			}
		}
		for a := range runs {
			if l := firstRows(runs, len(rows)); !slices.Equal(l, rows) {
				t.Errorf("Runs(%x) inside of itself, at %d: %v", s, a, l)
			}
		}
	}
}

// firstOf leaves an iterator behind n numbers.
func firstOf(seq func(func(int) bool), n int) []int {
	var l []int
	for i := range seq {
		if l = append(l, i); len(l) == n {
			break
		}
	}
	return l
}

// firstRows leaves an iterator behind n rows.
func firstRows(runs func(func(int, int) bool), n int) [][2]int {
	var l [][2]int
	for a, b := range runs {
		if l = append(l, [2]int{a, b}); len(l) == n {
			break
		}
	}
	return l
}

// P2.5
func TestThereAndBack(t *testing.T) {
	for _, s := range someSets() {
		l := slices.Collect(All(s))
		if back, err := Of(l); back != s || err != nil {
			t.Errorf("Of(All(%x)) = %x, %v", s, back, err)
		}
		var together []int
		for a, b := range Runs(s) {
			for i := a; i < b; i++ {
				together = append(together, i)
			}
		}
		if !slices.Equal(together, l) {
			t.Errorf("Runs(%x) are together %v", s, together)
		}
	}
}
