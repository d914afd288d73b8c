package clock

import (
	"errors"
	"fmt"
	"math"
	"math/big"
	"math/rand"
	"regexp"
	"strings"
	"testing"
	"unsafe"

	"lineage/api"
)

// most is MaxClock, and tick MaxTick and MaxLife, as the document's table of limits has them.
const (
	most = 1 << 40
	tick = 1 << 30
)

// tells checks an error's number, against all numbers; no error of this layer has a place.
func tells(t *testing.T, what string, err error, no api.Errno) {
	t.Helper()
	for n := api.OK; n <= api.ErrState+1; n++ {
		want := n == no && no != api.OK
		if errors.Is(err, n) != want {
			t.Errorf("%.80s: errors.Is(%v, %d): want just %d", what, err, n, no)
		}
	}
	if no == api.OK && err != nil {
		t.Errorf("%.80s: %v: want no error", what, err)
	}
	var f api.Fault
	if errors.As(err, &f) {
		t.Errorf("%.80s: a place %+v: want none", what, f)
	}
}

// someNumbers are the edges, and one more and one less; some of them are times.
func someNumbers() []int {
	var l []int
	for _, n := range []int{0, 5, 60, 3600, 86400, tick, 1 << 31, 1 << 32, most - tick, most, 2 * most, 1 << 62} {
		l = append(l, n-1, n, n+1, -n)
	}
	return append(l, math.MinInt, math.MinInt+1, math.MinInt+tick, math.MaxInt-tick, math.MaxInt-1, math.MaxInt)
}

// someTimes are the numbers that are times.
func someTimes() []int {
	var l []int
	for _, n := range someNumbers() {
		if n >= 0 && n <= most {
			l = append(l, n)
		}
	}
	return l
}

// within: is a number from a to b, and no less and no more?
func within(n *big.Int, a, b int64) bool {
	return n.Cmp(big.NewInt(a)) >= 0 && n.Cmp(big.NewInt(b)) <= 0
}

// great is a number that never wraps round.
func great(n int) *big.Int { return big.NewInt(int64(n)) }

// plainAfter is P4.1, in numbers without bounds.
func plainAfter(now, ticks int) (int, api.Errno) {
	sum := new(big.Int).Add(great(now), great(ticks))
	if !within(great(now), 0, most) || !within(great(ticks), 0, tick) || sum.Cmp(great(most)) > 0 {
		return 0, api.ErrTime
	}
	return int(sum.Int64()), api.OK
}

// P4.1
func TestAfter(t *testing.T) {
	for _, x := range []struct {
		now, ticks, want int
		no               api.Errno
	}{
		{5, 3, 8, api.OK}, {0, 0, 0, api.OK}, {0, 1, 1, api.OK}, {most, 0, most, api.OK},
		{most, 1, 0, api.ErrTime}, {-1, 3, 0, api.ErrTime}, {-1, 0, 0, api.ErrTime}, {most + 1, 0, 0, api.ErrTime},
		{0, tick, tick, api.OK}, {0, tick + 1, 0, api.ErrTime}, {0, -1, 0, api.ErrTime}, {5, -1, 0, api.ErrTime},
		{most - 7, 7, most, api.OK}, {most - 7, 8, 0, api.ErrTime},
		{most - tick, tick, most, api.OK}, {most - tick + 1, tick, 0, api.ErrTime},
		{math.MaxInt, math.MaxInt, 0, api.ErrTime}, {math.MaxInt, 1, 0, api.ErrTime}, {math.MinInt, math.MinInt, 0, api.ErrTime}, {most, math.MaxInt, 0, api.ErrTime},
	} {
		n, err := After(x.now, x.ticks)
		if n != x.want {
			t.Errorf("After(%d, %d) = %d: want %d", x.now, x.ticks, n, x.want)
		}
		tells(t, fmt.Sprint("After", x), err, x.no)
	}
}

// P4.1
func TestAfterAsWorded(t *testing.T) {
	for _, now := range someNumbers() {
		for _, ticks := range someNumbers() {
			want, no := plainAfter(now, ticks)
			n, err := After(now, ticks)
			if n != want {
				t.Errorf("After(%d, %d) = %d: want %d", now, ticks, n, want)
			}
			tells(t, fmt.Sprint("After ", now, ticks), err, no)
		}
	}
}

// plainUntil is P4.2, in numbers without bounds.
func plainUntil(now, life, bound int) (int, api.Errno) {
	if !within(great(now), 0, most) || !within(great(bound), 0, most) || !within(great(life), 1, tick) {
		return 0, api.ErrTime
	}
	d := new(big.Int).Add(great(now), great(life))
	if d.Cmp(great(bound)) > 0 {
		d = great(bound)
	}
	if d.Cmp(great(now)) <= 0 {
		return 0, api.ErrTime
	}
	return int(d.Int64()), api.OK
}

// P4.2
func TestUntil(t *testing.T) {
	for _, x := range []struct {
		now, life, bound, want int
		no                     api.Errno
	}{
		{5, 10, 100, 15, api.OK}, {5, 10, 12, 12, api.OK}, {5, 10, 15, 15, api.OK}, {5, 10, 16, 15, api.OK}, {5, 10, 14, 14, api.OK},
		{5, 10, 5, 0, api.ErrTime}, {5, 10, 6, 6, api.OK}, {5, 10, 4, 0, api.ErrTime}, {0, 1, 0, 0, api.ErrTime}, {0, 1, 1, 1, api.OK},
		{5, 0, 100, 0, api.ErrTime}, {5, 1, 100, 6, api.OK}, {5, -1, 100, 0, api.ErrTime},
		{5, tick, most, 5 + tick, api.OK}, {5, tick + 1, most, 0, api.ErrTime}, {5, tick + 1, 6, 0, api.ErrTime},
		{most, 1, most, 0, api.ErrTime}, {most - 1, 1, most, most, api.OK}, {most - 1, 2, most, most, api.OK}, {most - 1, tick, most, most, api.OK},
		{most + 1, 1, most, 0, api.ErrTime}, {-1, 5, 9, 0, api.ErrTime}, {5, 1, most + 1, 0, api.ErrTime}, {5, 1, -1, 0, api.ErrTime},
		{5, math.MaxInt, 9, 0, api.ErrTime}, {math.MaxInt, 1, math.MaxInt, 0, api.ErrTime}, {5, math.MinInt, 9, 0, api.ErrTime}, {math.MinInt, 5, 9, 0, api.ErrTime},
	} {
		n, err := Until(x.now, x.life, x.bound)
		if n != x.want {
			t.Errorf("Until(%d, %d, %d) = %d: want %d", x.now, x.life, x.bound, n, x.want)
		}
		tells(t, fmt.Sprint("Until", x), err, x.no)
	}
}

// P4.2
func TestUntilAsWorded(t *testing.T) {
	for _, now := range someNumbers() {
		for _, life := range someNumbers() {
			for _, bound := range append(someNumbers(), now, now+1, now+life) {
				want, no := plainUntil(now, life, bound)
				n, err := Until(now, life, bound)
				if n != want || (err == nil) != (no == api.OK) || err != nil && !errors.Is(err, no) {
					t.Errorf("Until(%d, %d, %d) = %d, %v: want %d, %d", now, life, bound, n, err, want, no)
				}
			}
		}
	}
}

// plainLeft is P4.3, in numbers without bounds.
func plainLeft(now, at int) int {
	left := new(big.Int).Sub(great(at), great(now))
	switch {
	case left.Sign() <= 0:
		return 0
	case left.Cmp(great(most)) > 0:
		return most
	}
	return int(left.Int64())
}

// P4.3
func TestLeft(t *testing.T) {
	for _, x := range [][3]int{
		{5, 9, 4}, {9, 5, 0}, {7, 7, 0}, {7, 8, 1}, {8, 7, 0}, {0, most, most}, {0, most - 1, most - 1}, {0, most + 1, most}, {-1, most, most}, {-1, most - 1, most},
		{math.MinInt, math.MaxInt, most}, {math.MaxInt, math.MinInt, 0}, {math.MinInt, math.MinInt, 0}, {math.MaxInt, math.MaxInt, 0},
		{math.MinInt, math.MinInt + 1, 1}, {math.MaxInt - 1, math.MaxInt, 1}, {math.MinInt, 0, most}, {math.MinInt, -1, most}, {-1, math.MaxInt, most}, {0, math.MaxInt, most}, {-9, -5, 4},
	} {
		if n := Left(x[0], x[1]); n != x[2] {
			t.Errorf("Left(%d, %d) = %d: want %d", x[0], x[1], n, x[2])
		}
	}
	for _, now := range someNumbers() {
		for _, at := range someNumbers() {
			if n, want := Left(now, at), plainLeft(now, at); n != want {
				t.Errorf("Left(%d, %d) = %d: want %d", now, at, n, want)
			}
		}
	}
}

// plainPrint is P4.4: all four parts are written, and those that are 0 are struck out.
func plainPrint(n int) string {
	var s string
	for _, part := range []string{fmt.Sprint(n/60/60/24, "d"), fmt.Sprint(n/60/60%24, "h"), fmt.Sprint(n/60%60, "m"), fmt.Sprint(n%60, "s")} {
		if part[0] != '0' {
			s += part
		}
	}
	if s == "" {
		return "0s"
	}
	return s
}

// P4.4
func TestPrint(t *testing.T) {
	for n, want := range map[int]string{
		0: "0s", 1: "1s", 59: "59s", 60: "1m", 61: "1m1s", 3599: "59m59s", 3600: "1h", 3601: "1h1s", 3660: "1h1m", 86399: "23h59m59s", 86400: "1d", 86401: "1d1s", 86460: "1d1m", 90000: "1d1h", 90061: "1d1h1m1s",
		1000: "16m40s", 864000: "10d", 36000: "10h", 600: "10m", 10: "10s", tick: "12427d13h37m4s", most: "12725829d36m16s", most - 1: "12725829d36m15s",
	} {
		s, err := Print(n)
		if s != want {
			t.Errorf("Print(%d) = %q: want %q", n, s, want)
		}
		tells(t, fmt.Sprint("Print ", n), err, api.OK)
	}
	for _, n := range []int{-1, -60, most + 1, most + 60, math.MinInt, math.MaxInt} {
		s, err := Print(n)
		if s != "" {
			t.Errorf("Print(%d) = %q", n, s)
		}
		tells(t, fmt.Sprint("Print ", n), err, api.ErrTime)
	}
}

// P4.4
func TestPrintAsWorded(t *testing.T) {
	try := func(n int) {
		if s, err := Print(n); s != plainPrint(n) || err != nil {
			t.Errorf("Print(%d) = %q, %v: want %q", n, s, err, plainPrint(n))
		}
	}
	for n := range 2*86400 + 100 {
		try(n)
	}
	for _, n := range someTimes() {
		try(n)
	}
	r := rand.New(rand.NewSource(4))
	for range 20000 {
		try(r.Intn(most + 1))
	}
}

// forms are the texts that are made as a form is, but 0s.
var forms = regexp.MustCompile(`^(?:([1-9][0-9]*)d)?(?:([1-9]|1[0-9]|2[0-3])h)?(?:([1-9]|[1-5][0-9])m)?(?:([1-9]|[1-5][0-9])s)?$`)

// plainParse is P4.5, in numbers without bounds.
func plainParse(s string) (int, api.Errno) {
	if s == "0s" {
		return 0, api.OK
	}
	parts := forms.FindStringSubmatch(s)
	if s == "" || parts == nil {
		return 0, api.ErrForm
	}
	sum := new(big.Int)
	for i, ticks := range []int64{86400, 3600, 60, 1} {
		count, _ := new(big.Int).SetString("0"+parts[i+1], 10)
		sum.Add(sum, count.Mul(count, big.NewInt(ticks)))
	}
	if sum.Cmp(great(most)) > 0 {
		return 0, api.ErrTime
	}
	return int(sum.Int64()), api.OK
}

// parses checks Parse of a text against the plain one.
func parses(t *testing.T, s string) {
	t.Helper()
	want, no := plainParse(s)
	n, err := Parse(s)
	if n != want {
		t.Errorf("Parse(%.80q) = %d: want %d", s, n, want)
	}
	tells(t, "Parse "+s, err, no)
}

// P4.5
func TestParse(t *testing.T) {
	for s, want := range map[string]int{
		"0s": 0, "1s": 1, "59s": 59, "1m": 60, "59m": 59 * 60, "1h": 3600, "23h": 23 * 3600, "1d": 86400, "1d1h1m1s": 90061, "1d1s": 86401, "1d1m": 86460, "1d1h": 90000, "1h1m": 3660, "1h1s": 3601, "1m1s": 61,
		"10d20h30m40s": 937840, "100d": 8640000, "366d23h59m59s": 366*86400 + 86399, "16m40s": 1000, "12725829d36m16s": most, "12725829d36m15s": most - 1, "12725829d": 12725829 * 86400,
	} {
		n, err := Parse(s)
		if n != want {
			t.Errorf("Parse(%q) = %d: want %d", s, n, want)
		}
		tells(t, "Parse "+s, err, api.OK)
	}
}

// P4.5
func TestParseRefuses(t *testing.T) {
	many := strings.Repeat("9", 5000)
	for no, texts := range map[api.Errno][]string{
		api.ErrForm: {
			"", "0", "1", "12", "s", "d", "dhms", "d1", "1h1d", "1s1m", "1m1d", "1s1d", "1s1h", "1m1h", "1d1d", "1h1h", "1m1m", "1s1s", "0s0s", "0d", "0h", "0m", "00s", "0s1s", "1d0s", "1d0h", "1m0s", "0d0s", "0d1s", "01s", "01d", "001d", "1d01h", "1h01m", "1m01s",
			"24h", "60m", "60s", "61s", "100s", "100h", "99m", "1d24h", "1d60m", "1d60s", many + "h", many + "m", many + "s", many, "18446744073709551617s", "18446744073709551617m", "4294967297h",
			"1d1", "1d1x", "1ds", "1dh", "1d s", " 1s", "1s ", "1 s", "-1s", "+1s", "1d-1s", "1S", "1D", "1.5h", "1,0s", "1_0s", "0x1s", "1sx", "1s\n", "\n1s", "1s\x00", "\x001s", "1w", "1y", "1ms", "1m1", "1\xffs", "\xff", "١s", "１s", "1ѕ",
			"12725829d36m16", "12725829d36m60s", "99999999999999999999d60s", many + "d24h", many + "d0s", many + "d1d", "0" + many + "d", many + "dd", many + "d1",
		},
		api.ErrTime: {
			"12725829d36m17s", "12725829d37m", "12725829d1h", "12725830d", "12725830d1s", "99999999d", "9999999999999d", "99999999999999999999d", "106751991167301d", "213503982334602d", "18446744073709551617d", "1" + strings.Repeat("0", 64) + "d",
			many + "d", many + "d1s", many + "d23h59m59s", "1" + strings.Repeat("0", 100000) + "d", "9223372036854775807d", "9223372036854775808d", "1099511627776d", "1099511627777d", "1099511627778d23h59m59s",
		},
	} {
		for _, s := range texts {
			n, err := Parse(s)
			if n != 0 {
				t.Errorf("Parse(%.80q) = %d", s, n)
			}
			tells(t, "Parse "+s, err, no)
			parses(t, s)
		}
	}
}

// P4.5: every text of a few bytes.
func TestParseShortTexts(t *testing.T) {
	var grow func(s string, more int)
	grow = func(s string, more int) {
		want, no := plainParse(s)
		if n, err := Parse(s); n != want || (err == nil) != (no == api.OK) || err != nil && !errors.Is(err, no) {
			t.Errorf("Parse(%q) = %d, %v: want %d, %d", s, n, err, want, no)
		}
		for i := 0; more > 0 && i < len("01269dhms x"); i++ {
			grow(s+"01269dhms x"[i:i+1], more-1)
		}
	}
	grow("", 5)
	for c := range 256 {
		for _, s := range []string{string([]byte{byte(c)}), string([]byte{'1', byte(c)}), string([]byte{byte(c), 's'}), string([]byte{'1', byte(c), 's'}), string([]byte{'1', byte(c), 'd'}), string([]byte{'1', 's', byte(c)}), string([]byte{'1', 'd', byte(c), 's'})} {
			parses(t, s)
		}
	}
}

// P4.5: rows of parts in every order, with numbers about their bounds.
func TestParseParts(t *testing.T) {
	numbers := []string{"", "0", "1", "01", "9", "10", "22", "23", "24", "59", "60", "100", "12725829", "12725830", "1099511627777", "18446744073709551615", "99999999999999999999999999"}
	r := rand.New(rand.NewSource(45))
	for range 60000 {
		var s string
		for range 1 + r.Intn(5) {
			s += numbers[r.Intn(len(numbers))] + "dhms"[:4][r.Intn(4):][:1]
		}
		parses(t, s)
	}
	for range 60000 {
		var s string
		for i := range 4 {
			if r.Intn(3) > 0 {
				s += numbers[r.Intn(len(numbers))] + "dhms"[i:i+1]
			}
		}
		parses(t, s)
	}
}

// P4.6
func TestRoundTrip(t *testing.T) {
	seen := map[string]int{}
	back := func(n int) {
		s, err := Print(n)
		if err != nil {
			t.Fatalf("Print(%d): %v", n, err)
		}
		if m, there := seen[s]; there && m != n {
			t.Errorf("Print of %d and of %d: %q", m, n, s)
		}
		seen[s] = n
		if m, err := Parse(s); m != n || err != nil {
			t.Errorf("Parse(Print(%d)) = %d, %v", n, m, err)
		}
	}
	for n := range 100000 {
		back(n)
	}
	for _, n := range someTimes() {
		back(n)
	}
	r := rand.New(rand.NewSource(46))
	for range 20000 {
		back(r.Intn(most + 1))
	}
}

// P4.6: what Parse takes is told by Print, byte by byte.
func TestTakenIsTold(t *testing.T) {
	told := func(s string) {
		n, err := Parse(s)
		if err != nil {
			return
		}
		if back, err := Print(n); back != s || err != nil {
			t.Errorf("Print(Parse(%q)) = %q, %v", s, back, err)
		}
	}
	for _, d := range []string{"", "1d", "9d", "10d", "12725828d", "12725829d", "12725830d", "01d"} {
		for h := range 26 {
			for m := range 62 {
				for sec := range 62 {
					s := d
					for _, part := range []string{fmt.Sprint(h, "h"), fmt.Sprint(m, "m"), fmt.Sprint(sec, "s")} {
						if part[0] != '0' {
							s += part
						}
					}
					told(s)
				}
			}
		}
	}
	for _, s := range []string{"0s", "00s", "0d", "0d0s", "1d0s"} {
		told(s)
	}
}

// P4.7
func TestAfterFollows(t *testing.T) {
	for _, now := range someTimes() {
		for _, ticks := range someTimes() {
			at, err := After(now, ticks)
			if err != nil {
				continue
			}
			if at < now || Left(now, at) != ticks {
				t.Errorf("After(%d, %d) = %d, of which %d are left", now, ticks, at, Left(now, at))
			}
		}
	}
}

// P4.7
func TestUntilFollows(t *testing.T) {
	for _, now := range someTimes() {
		for _, bound := range someTimes() {
			last := 0
			for _, life := range []int{1, 2, 59, 60, 300, 86400, tick - 1, tick} {
				d, err := Until(now, life, bound)
				if err != nil {
					if bound > now {
						t.Errorf("Until(%d, %d, %d): %v", now, life, bound, err)
					}
					continue
				}
				if d <= now || d-now > tick || d > bound || d < last {
					t.Errorf("Until(%d, %d, %d) = %d, of a shorter life %d", now, life, bound, d, last)
				}
				last = d
			}
		}
	}
}

// R4: texts that are told share no memory.
func TestNewMemory(t *testing.T) {
	for _, n := range []int{0, 1, 60, 86400, 90061, most} {
		a, _ := Print(n)
		b, _ := Print(n)
		if unsafe.StringData(a) == unsafe.StringData(b) {
			t.Errorf("Print(%d) twice: one memory", n)
		}
	}
}

// R5: an answer hangs on the arguments alone, whatever was asked before.
func TestSameAgain(t *testing.T) {
	texts := []string{"1d1h1m1s", "60s", "0s", "", "99999999999999999999d", "12725829d36m16s"}
	for range 3 {
		for _, s := range texts {
			parses(t, s)
		}
		if s, err := Print(90061); s != "1d1h1m1s" || err != nil {
			t.Errorf("Print(90061) = %q, %v", s, err)
		}
	}
}
