package level

import (
	"errors"
	"fmt"
	"math"
	"math/rand"
	"slices"
	"strings"
	"testing"
	"unsafe"

	"lineage/api"
)

// stepUp is StepUpTicks, as the document's table of limits has it.
const stepUp = 300

// tells checks an error's number, against all numbers; no error of this layer has a place.
func tells(t *testing.T, what string, err error, no api.Errno) {
	t.Helper()
	for n := api.OK; n <= api.ErrState+1; n++ {
		want := n == no && no != api.OK
		if errors.Is(err, n) != want {
			t.Errorf("%.80s: errors.Is(%v, %d): want just %d", what, err, n, no)
		}
	}
	if no == api.OK && err != nil {
		t.Errorf("%.80s: %v: want no error", what, err)
	}
	var f api.Fault
	if errors.As(err, &f) {
		t.Errorf("%.80s: a place %+v: want none", what, f)
	}
}

// someNumbers are the levels, the numbers beside them, and others, of which a part of the bits is like a level's.
func someNumbers() []int {
	l := []int{math.MinInt, math.MinInt + 1, math.MinInt + 2, math.MaxInt - 2, math.MaxInt - 1, math.MaxInt}
	for _, n := range []int{-300, -2, -1, 0, 1, 2, 3, 4, 298, 299, 300, 301, 302, 600} {
		l = append(l, n, 1<<8+n, 1<<16+n, 1<<32+n, 1<<62+n, -1<<32+n)
	}
	return l
}

// P5.1
func TestName(t *testing.T) {
	want := map[int]string{0: "low", 1: "mid", 2: "high"}
	for _, l := range someNumbers() {
		name, there := want[l]
		no := api.ErrLevel
		if there {
			no = api.OK
		}
		s, err := Name(l)
		if s != name {
			t.Errorf("Name(%d) = %q: want %q", l, s, name)
		}
		tells(t, fmt.Sprint("Name ", l), err, no)
	}
}

// P5.1
func TestParse(t *testing.T) {
	for s, want := range map[string]int{"low": 0, "mid": 1, "high": 2} {
		l, err := Parse(s)
		if l != want {
			t.Errorf("Parse(%q) = %d: want %d", s, l, want)
		}
		tells(t, "Parse "+s, err, api.OK)
	}
}

// P5.1
func TestParseRefuses(t *testing.T) {
	wrong := []string{"", " ", "0", "1", "2", "3", "-1", "l", "m", "h", "middle", "medium", "lowmid", "low mid", "low,mid", "none", "ok", "l\u043ew", "\x00", "\xff", strings.Repeat("low", 1000)}
	for _, s := range []string{"low", "mid", "high"} {
		wrong = append(wrong, " "+s, s+" ", "\t"+s, s+"\n", s+"\x00", "\x00"+s, s+"\xff", s+s, s+"s", "a"+s, s[:len(s)-1], s[1:], strings.ToUpper(s), strings.ToUpper(s[:1])+s[1:], s[:len(s)-1]+strings.ToUpper(s[len(s)-1:]), s[:1]+" "+s[1:], "\u200b"+s)
		for i := range len(s) {
			for c := range 256 {
				if byte(c) != s[i] {
					wrong = append(wrong, s[:i]+string([]byte{byte(c)})+s[i+1:])
				}
			}
		}
	}
	for _, s := range wrong {
		l, err := Parse(s)
		if l != 0 {
			t.Errorf("Parse(%.80q) = %d", s, l)
		}
		if err != api.ErrForm {
			tells(t, fmt.Sprintf("Parse %q", s), err, api.ErrForm)
		}
	}
}

// P5.2
func TestEnough(t *testing.T) {
	enough := map[[2]int]int{{0, 0}: 1, {1, 0}: 1, {1, 1}: 1, {2, 0}: 1, {2, 1}: 1, {2, 2}: 1}
	for _, have := range someNumbers() {
		for _, need := range someNumbers() {
			if ok := Enough(have, need); ok != (enough[[2]int{have, need}] == 1) {
				t.Errorf("Enough(%d, %d) = %t", have, need, ok)
			}
		}
	}
}

// plainRaise is P5.3, from a table of the steps that may be.
func plainRaise(have, want, life int) api.Errno {
	switch [2]int{have, want} {
	case [2]int{0, 1}, [2]int{0, 2}, [2]int{1, 2}:
	default:
		return api.ErrLevel
	}
	if life >= 1 && life <= stepUp {
		return api.OK
	}
	return api.ErrTime
}

// P5.3
func TestRaise(t *testing.T) {
	for _, x := range []struct {
		have, want, life int
		no               api.Errno
	}{
		{0, 1, 300, api.OK}, {0, 1, 301, api.ErrTime}, {1, 1, 0, api.ErrLevel}, {2, 3, 5, api.ErrLevel}, {0, 2, 0, api.ErrTime},
		{0, 1, 1, api.OK}, {0, 2, 1, api.OK}, {1, 2, 1, api.OK}, {0, 2, 300, api.OK}, {1, 2, 300, api.OK}, {1, 2, 299, api.OK}, {0, 1, 0, api.ErrTime}, {1, 2, 0, api.ErrTime}, {0, 1, -1, api.ErrTime}, {1, 2, 301, api.ErrTime},
		{0, 1, math.MinInt, api.ErrTime}, {0, 1, math.MaxInt, api.ErrTime}, {1, 2, 1<<32 + 1, api.ErrTime},
		{0, 0, 5, api.ErrLevel}, {1, 1, 5, api.ErrLevel}, {2, 2, 5, api.ErrLevel}, {1, 0, 5, api.ErrLevel}, {2, 0, 5, api.ErrLevel}, {2, 1, 5, api.ErrLevel},
		{1, 0, 0, api.ErrLevel}, {2, 2, 301, api.ErrLevel}, {0, 0, math.MaxInt, api.ErrLevel},
		{-1, 0, 5, api.ErrLevel}, {-1, 1, 5, api.ErrLevel}, {-1, 2, 0, api.ErrLevel}, {0, 3, 5, api.ErrLevel}, {1, 3, 301, api.ErrLevel}, {2, 3, 0, api.ErrLevel}, {3, 4, 5, api.ErrLevel}, {-2, -1, 5, api.ErrLevel}, {-1, 3, 5, api.ErrLevel},
		{math.MinInt, 1, 5, api.ErrLevel}, {0, math.MaxInt, 5, api.ErrLevel}, {math.MinInt, math.MaxInt, 5, api.ErrLevel}, {math.MaxInt, math.MinInt, 5, api.ErrLevel}, {1 << 32, 1, 5, api.ErrLevel}, {0, 1<<32 + 1, 5, api.ErrLevel},
	} {
		tells(t, fmt.Sprint("Raise", x), Raise(x.have, x.want, x.life), x.no)
	}
}

// P5.3
func TestRaiseAsWorded(t *testing.T) {
	for _, have := range someNumbers() {
		for _, want := range someNumbers() {
			for _, life := range someNumbers() {
				err, no := Raise(have, want, life), plainRaise(have, want, life)
				if (err == nil) != (no == api.OK) || err != nil && !errors.Is(err, no) {
					t.Errorf("Raise(%d, %d, %d) = %v: want %d", have, want, life, err, no)
				}
			}
		}
	}
}

// lives: does a session live?
func lives(s api.Session, now int) bool { return s.Deadline > now }

// plainBest is P5.4, word by word: what isn't the greatest, or the least, is thrown out.
func plainBest(l []api.Session, now int) (api.Session, bool) {
	left := keep(l, func(s api.Session) bool { return lives(s, now) })
	for _, worse := range []func(s, other api.Session) bool{
		func(s, other api.Session) bool { return s.Level < other.Level },
		func(s, other api.Session) bool { return s.Deadline < other.Deadline },
		func(s, other api.Session) bool { return s.Birth > other.Birth },
	} {
		all := left
		left = keep(all, func(s api.Session) bool {
			return !slices.ContainsFunc(all, func(other api.Session) bool { return worse(s, other) })
		})
	}
	if len(left) == 0 {
		return api.Session{}, false
	}
	return left[0], true
}

// keep is a new list of those that ok takes, in their order.
func keep(l []api.Session, ok func(api.Session) bool) []api.Session {
	var left []api.Session
	for _, s := range l {
		if ok(s) {
			left = append(left, s)
		}
	}
	return left
}

// finds checks Best of a list against the plain one; the list and its spare room stay as they were.
func finds(t *testing.T, l []api.Session, now int) {
	t.Helper()
	before := slices.Clone(l[:cap(l)])
	want, ok := plainBest(l, now)
	if s, got := Best(l, now); s != want || got != ok {
		t.Errorf("Best(%+v, %d) = %+v, %t: want %+v, %t", l, now, s, got, want, ok)
	}
	if !slices.Equal(before, l[:cap(l)]) {
		t.Errorf("Best(.., %d) changed the list: %+v: was %+v", now, l[:cap(l)], before)
	}
}

// is makes a session of those numbers by which Best chooses; the slot tells it from others that are alike in them.
func is(slot, level, deadline, birth int) api.Session {
	return api.Session{Slot: slot, Level: level, Deadline: deadline, Birth: birth}
}

// P5.4
func TestBest(t *testing.T) {
	whole := api.Session{Slot: 3, Birth: 9, Up: api.Link{Slot: 2, Birth: 1}, Kind: api.KRaised, User: "ann", Label: "tv", Scopes: 5, Level: 1, Born: 4, Deadline: 9, Depth: 2}
	for _, x := range []struct {
		what string
		l    []api.Session
		now  int
		want int // its index; -1: none
	}{
		{"no list", nil, 0, -1},
		{"an empty list", []api.Session{}, 0, -1},
		{"the chapter's", []api.Session{is(1, 1, 9, 2), is(2, 1, 9, 1), is(3, 2, 5, 3)}, 5, 1},
		{"while the third lives", []api.Session{is(1, 1, 9, 2), is(2, 1, 9, 1), is(3, 2, 5, 3)}, 4, 2},
		{"none lives", []api.Session{is(1, 1, 9, 2), is(2, 2, 8, 1)}, 9, -1},
		{"a deadline that is now", []api.Session{is(1, 1, 9, 2)}, 9, -1},
		{"a deadline that is one more", []api.Session{is(1, 1, 10, 2)}, 9, 0},
		{"a deadline that is one less", []api.Session{is(1, 1, 8, 2)}, 9, -1},
		{"the level goes before the deadline", []api.Session{is(1, 0, 90, 1), is(2, 1, 6, 9), is(3, 0, 91, 0)}, 5, 1},
		{"the deadline goes before the birth", []api.Session{is(1, 1, 9, 1), is(2, 1, 10, 5), is(3, 1, 9, 0)}, 5, 1},
		{"the least birth", []api.Session{is(1, 1, 9, 3), is(2, 1, 9, 2), is(3, 1, 9, 4)}, 5, 1},
		{"the first", []api.Session{is(1, 1, 9, 3), is(2, 1, 9, 3), is(3, 1, 9, 3)}, 5, 0},
		{"the first of the best", []api.Session{is(0, 1, 9, 4), is(1, 1, 9, 3), is(2, 1, 9, 3), is(3, 0, 9, 3)}, 5, 1},
		{"the best is dead", []api.Session{is(0, 2, 5, 1), is(1, 1, 6, 3), is(2, 2, 4, 2)}, 5, 1},
		{"all fields", []api.Session{is(1, 0, 9, 1), whole}, 5, 1},
		{"the zero session", []api.Session{{}}, -1, 0},
		{"the zero session, at 0", []api.Session{{}}, 0, -1},
		{"levels that are none", []api.Session{is(1, 2, 9, 1), is(2, 3, 9, 2), is(3, -1, 9, 0)}, 5, 1},
		{"a level below all", []api.Session{is(1, math.MinInt, 9, 1)}, 5, 0},
		{"levels far apart", []api.Session{is(1, math.MinInt, 9, 1), is(2, math.MaxInt, 9, 2), is(3, 0, 9, 3)}, 5, 1},
		{"levels far apart, turned", []api.Session{is(1, math.MaxInt, 9, 2), is(2, math.MinInt, 9, 1), is(3, -2, 9, 3)}, 5, 0},
		{"deadlines far apart", []api.Session{is(1, 1, math.MinInt+1, 1), is(2, 1, math.MaxInt, 2), is(3, 1, -2, 0)}, math.MinInt, 1},
		{"the last time", []api.Session{is(1, 1, math.MaxInt, 1)}, math.MaxInt, -1},
		{"ahead of the last time", []api.Session{is(1, 1, math.MaxInt, 1)}, math.MaxInt - 1, 0},
		{"the first time", []api.Session{is(1, 1, math.MinInt, 1)}, math.MinInt, -1},
		{"births far apart", []api.Session{is(1, 1, 9, math.MaxInt), is(2, 1, 9, math.MinInt), is(3, 1, 9, 0)}, 5, 1},
		{"births far apart, turned", []api.Session{is(1, 1, 9, math.MinInt), is(2, 1, 9, math.MaxInt), is(3, 1, 9, 2)}, 5, 0},
	} {
		var want api.Session
		if x.want >= 0 {
			want = x.l[x.want]
		}
		if s, ok := Best(x.l, x.now); s != want || ok != (x.want >= 0) {
			t.Errorf("%s: Best = %+v, %t: want %+v", x.what, s, ok, want)
		}
		finds(t, x.l, x.now)
	}
}

// someSessions is a list of sessions that are often alike in what Best asks.
func someSessions(r *rand.Rand, count int) []api.Session {
	levels := []int{0, 1, 2, 1, 2, 3, -1, math.MinInt, math.MaxInt}
	times := []int{4, 5, 6, 7, 7, 8, -3, math.MinInt, math.MaxInt}
	births := []int{1, 2, 3, 4, 1, 2, 0, math.MinInt, math.MaxInt}
	of := 3 + r.Intn(7)
	l := make([]api.Session, count, count+r.Intn(3))
	for i := range l[:cap(l)] {
		s := is(i, levels[r.Intn(of)], times[r.Intn(of)], births[r.Intn(of)])
		s.User, s.Label = []string{"ann", "bob", ""}[r.Intn(3)], []string{"", "tv"}[r.Intn(2)]
		l[:cap(l)][i] = s
	}
	return l
}

// P5.4, R3, R4
func TestBestAsWorded(t *testing.T) {
	r := rand.New(rand.NewSource(54))
	for range 20000 {
		l := someSessions(r, r.Intn(9))
		for _, now := range []int{4, 5, 6, 7, -1, math.MinInt, math.MaxInt, math.MaxInt - 1} {
			finds(t, l, now)
		}
	}
}

// P5.5
func TestRoundTrip(t *testing.T) {
	for _, l := range someNumbers() {
		s, err := Name(l)
		if err != nil {
			continue
		}
		if back, err := Parse(s); back != l || err != nil {
			t.Errorf("Parse(Name(%d)) = %d, %v", l, back, err)
		}
	}
	for _, s := range []string{"low", "mid", "high"} {
		l, err := Parse(s)
		if err != nil {
			t.Errorf("Parse(%q): %v", s, err)
		}
		if back, err := Name(l); back != s || err != nil {
			t.Errorf("Name(Parse(%q)) = %q, %v", s, back, err)
		}
	}
}

// P5.5
func TestRaiseFollows(t *testing.T) {
	raised := 0
	for _, have := range someNumbers() {
		for _, want := range someNumbers() {
			for _, life := range []int{1, 2, 299, 300} {
				if Raise(have, want, life) != nil {
					continue
				}
				raised++
				if !Enough(want, have) || Enough(have, want) || have == api.LHigh {
					t.Errorf("Raise(%d, %d, %d) is nil: Enough %t, turned %t", have, want, life, Enough(want, have), Enough(have, want))
				}
			}
		}
	}
	if raised != 3*4 {
		t.Errorf("%d steps up of four lives: want 12", raised)
	}
}

// P5.6
func TestBestFollows(t *testing.T) {
	r := rand.New(rand.NewSource(56))
	for range 5000 {
		l, more := someSessions(r, r.Intn(7)), someSessions(r, r.Intn(7))
		s, ok := Best(l, 5)
		if ok != slices.ContainsFunc(l, func(s api.Session) bool { return lives(s, 5) }) {
			t.Errorf("Best(%+v, 5): %t", l, ok)
		}
		if ok && (!slices.Contains(l, s) || !lives(s, 5)) {
			t.Errorf("Best(%+v, 5) = %+v", l, s)
		}
		for _, other := range l {
			if lives(other, 5) && other.Level > s.Level {
				t.Errorf("Best(%+v, 5) = %+v: %+v is more", l, s, other)
			}
		}
		if again, still := Best(slices.Concat(l, l), 5); again != s || still != ok {
			t.Errorf("Best of the list twice: %+v, %t: want %+v, %t", again, still, s, ok)
		}
		s2, ok2 := Best(more, 5)
		if both, any := Best(slices.Concat(l, more), 5); any != (ok || ok2) || any && both != s && both != s2 {
			t.Errorf("Best of two lists: %+v, %t: theirs are %+v and %+v", both, any, s, s2)
		}
	}
}

// R3: what lies behind a list's length is not read.
func TestSpareRoom(t *testing.T) {
	l := []api.Session{is(1, 1, 9, 2), is(2, 2, 9, 1), is(3, 2, 99, 1)}
	if s, ok := Best(l[:1], 5); s != l[0] || !ok {
		t.Errorf("Best of the first: %+v, %t", s, ok)
	}
	if s, ok := Best(l[:0], 5); ok {
		t.Errorf("Best of none: %+v", s)
	}
}

// R4: texts that are told share no memory, with one another or with an argument.
func TestNewMemory(t *testing.T) {
	for l := range 3 {
		a, _ := Name(l)
		b, _ := Name(l)
		if unsafe.StringData(a) == unsafe.StringData(b) {
			t.Errorf("Name(%d) twice: one memory", l)
		}
	}
	l := []api.Session{{User: "ann", Label: "phone", Deadline: 9}}
	s, _ := Best(l, 5)
	if s != l[0] || unsafe.StringData(s.User) == unsafe.StringData(l[0].User) || unsafe.StringData(s.Label) == unsafe.StringData(l[0].Label) {
		t.Errorf("Best(%+v) = %+v: its texts are the list's", l, s)
	}
}

// R5: an answer hangs on the arguments alone, whatever was asked before.
func TestSameAgain(t *testing.T) {
	l := []api.Session{is(1, 1, 9, 2), is(2, 1, 9, 1), is(3, 2, 5, 3)}
	for range 3 {
		for now, want := range map[int]api.Session{4: l[2], 5: l[1], 9: {}} {
			if s, ok := Best(l, now); s != want || ok != (now < 9) {
				t.Errorf("Best(.., %d) = %+v, %t", now, s, ok)
			}
		}
		if s, err := Name(1); s != "mid" || err != nil {
			t.Errorf("Name(1) = %q, %v", s, err)
		}
		if err := Raise(0, 1, 300); err != nil {
			t.Errorf("Raise(0, 1, 300): %v", err)
		}
	}
}
