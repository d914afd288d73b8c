package tag

import (
	"bytes"
	"errors"
	"math"
	"math/big"
	"math/rand"
	"slices"
	"strings"
	"testing"

	"lineage/api"
)

// tells checks an error's number, against all numbers; no error of this layer has a place.
func tells(t *testing.T, what string, err error, no api.Errno) {
	t.Helper()
	for n := api.OK; n <= api.ErrState+1; n++ {
		want := n == no && no != api.OK
		if errors.Is(err, n) != want {
			t.Errorf("%.80s: errors.Is(%v, %d): want just %d", what, err, n, no)
		}
	}
	if no == api.OK && err != nil {
		t.Errorf("%.80s: %v: want no error", what, err)
	}
	var f api.Fault
	if errors.As(err, &f) {
		t.Errorf("%.80s: a place %+v: want none", what, f)
	}
}

// The plain sum: numbers without bound, brought below 2^64 behind each step that the chapter words.

func within(n *big.Int) *big.Int { return n.Mod(n, new(big.Int).Lsh(big.NewInt(1), 64)) }

func plus(a, b *big.Int) *big.Int { return within(new(big.Int).Add(a, b)) }

func xor(a, b *big.Int) *big.Int { return new(big.Int).Xor(a, b) }

func turn(a *big.Int, n uint) *big.Int {
	up := within(new(big.Int).Lsh(a, n))
	return plus(up, new(big.Int).Rsh(a, 64-n))
}

// number is that of some bytes, the lowest first.
func number(b []byte) *big.Int {
	b = slices.Clone(b)
	slices.Reverse(b)
	return new(big.Int).SetBytes(b)
}

func plainRound(v []*big.Int) {
	v[0] = plus(v[0], v[1])
	v[1] = turn(v[1], 13)
	v[1] = xor(v[1], v[0])
	v[0] = turn(v[0], 32)
	v[2] = plus(v[2], v[3])
	v[3] = turn(v[3], 16)
	v[3] = xor(v[3], v[2])
	v[0] = plus(v[0], v[3])
	v[3] = turn(v[3], 21)
	v[3] = xor(v[3], v[0])
	v[2] = plus(v[2], v[1])
	v[1] = turn(v[1], 17)
	v[1] = xor(v[1], v[2])
	v[2] = turn(v[2], 32)
}

// plainStart: the four numbers to the base 16 are these texts' bytes, the first one highest.
func plainStart(key string) []*big.Int {
	k0, k1 := number([]byte(key[:8])), number([]byte(key[8:]))
	text := func(s string) *big.Int { return new(big.Int).SetBytes([]byte(s)) }
	return []*big.Int{xor(k0, text("somepseu")), xor(k1, text("dorandom")), xor(k0, text("lygenera")), xor(k1, text("tedbytes"))}
}

func plain(key string, b []byte) uint64 {
	v := plainStart(key)
	padded := append(slices.Clone(b), make([]byte, 7-len(b)%8)...)
	padded = append(padded, byte(len(b)%256))
	for word := range slices.Chunk(padded, 8) {
		m := number(word)
		v[3] = xor(v[3], m)
		plainRound(v)
		plainRound(v)
		v[0] = xor(v[0], m)
	}
	v[2] = xor(v[2], big.NewInt(0xff))
	for range 4 {
		plainRound(v)
	}
	return xor(xor(v[0], v[1]), xor(v[2], v[3])).Uint64()
}

// twelve are the bytes of which a tag is the sum.
func twelve(slot, birth int) []byte {
	two := func(n int, bits uint) *big.Int {
		return new(big.Int).Mod(big.NewInt(int64(n)), new(big.Int).Lsh(big.NewInt(1), bits))
	}
	b := two(slot, 32).FillBytes(make([]byte, 4))
	slices.Reverse(b)
	c := two(birth, 64).FillBytes(make([]byte, 8))
	slices.Reverse(c)
	return append(b, c...)
}

// rising are the bytes 0, 1, and so on.
func rising(n int) []byte {
	b := make([]byte, n)
	for i := range b {
		b[i] = byte(i)
	}
	return b
}

func randomRow(r *rand.Rand, n int) []byte {
	b := make([]byte, n)
	r.Read(b)
	return b
}

// keys: the chapter's, some in which one half is like the other or one bit is 1, and random ones.
func keys() []string {
	r := rand.New(rand.NewSource(7))
	l := []string{string(rising(16)), strings.Repeat("\x00", 16), strings.Repeat("\xff", 16), "kkkkkkkkkkkkkkkk", "aaaaaaaabbbbbbbb", "bbbbbbbbaaaaaaaa",
		"\x80" + strings.Repeat("\x00", 15), strings.Repeat("\x00", 15) + "\x80", strings.Repeat("\x00", 7) + "\x01" + strings.Repeat("\x00", 8), strings.Repeat("\x00", 8) + "\x01" + strings.Repeat("\x00", 7)}
	for range 5 {
		l = append(l, string(randomRow(r, 16)))
	}
	return l
}

// rows are rows of many lengths.
func rows() [][]byte {
	r := rand.New(rand.NewSource(71))
	l := [][]byte{nil, {}}
	for n := range 42 {
		l = append(l, rising(n), make([]byte, n), bytes.Repeat([]byte{0xff}, n), randomRow(r, n))
	}
	for _, n := range []int{63, 64, 65, 127, 128, 247, 248, 254, 255, 256, 257, 263, 264, 511, 512, 513, 1000} {
		l = append(l, randomRow(r, n), make([]byte, n))
	}
	return l
}

// made is the key of a text that is one.
func made(t *testing.T, key string) *Key {
	t.Helper()
	k, err := New(key)
	tells(t, "New", err, api.OK)
	if k == nil {
		t.Fatalf("New(%q): no key", key)
	}
	return k
}

// P7.1
func TestNew(t *testing.T) {
	for n := range 70 {
		for _, key := range []string{string(rising(n)), strings.Repeat("k", n), strings.Repeat("\x00", n), strings.Repeat("\xff", n)} {
			k, err := New(key)
			if n == 16 {
				tells(t, "New of 16 bytes", err, api.OK)
				if k == nil {
					t.Errorf("New(%q): no key", key)
				}
				continue
			}
			tells(t, "New of another length", err, api.ErrKey)
			if k != nil || err != api.ErrKey {
				t.Errorf("New of %d bytes: %v, %v", n, k, err)
			}
		}
	}
	for _, n := range []int{256 + 16, 1<<16 + 16, 1 << 20} {
		k, err := New(strings.Repeat("k", n))
		tells(t, "New of many bytes", err, api.ErrKey)
		if k != nil {
			t.Errorf("New of %d bytes: a key", n)
		}
	}
}

// P7.1: bytes count, not runes.
func TestNewCountsBytes(t *testing.T) {
	if _, err := New(strings.Repeat("ä", 8)); err != nil {
		t.Errorf("8 runes of 2 bytes: %v", err)
	}
	k, err := New(strings.Repeat("ä", 16))
	tells(t, "16 runes of 2 bytes", err, api.ErrKey)
	if k != nil {
		t.Error("16 runes of 2 bytes: a key")
	}
}

// P7.1
func TestEachByteOfTheKeyCounts(t *testing.T) {
	base := rising(16)
	for i := range base {
		for bit := range 8 {
			other := slices.Clone(base)
			other[i] ^= 1 << bit
			if made(t, string(other)).Sum([]byte("x")) == made(t, string(base)).Sum([]byte("x")) {
				t.Errorf("bit %d of byte %d of the key doesn't count", bit, i)
			}
		}
	}
}

// P7.1, P7.3: a key never changes, whatever is asked of it.
func TestKeyNeverChanges(t *testing.T) {
	for _, key := range keys() {
		k, other := made(t, key), made(t, key)
		was := *k
		for _, b := range rows() {
			want := plain(key, b)
			if k.Sum(b) != want || k.Sum(b) != want {
				t.Fatalf("key %q: Sum of %d bytes is another behind others", key, len(b))
			}
			if k.Of(len(b), 1) != other.Of(len(b), 1) || other.Sum([]byte("a")) != k.Sum([]byte("a")) {
				t.Fatalf("key %q: a second key of the same bytes has other sums", key)
			}
		}
		if *k != was || *other != was {
			t.Errorf("key %q has changed", key)
		}
	}
}

// P7.2
func TestSumExamples(t *testing.T) {
	k := made(t, string(rising(16)))
	for n, want := range []uint64{
		0x726fdb47dd0e0e31, 0x74f839c593dc67fd, 0x0d6c8009d9a94f5a, 0x85676696d7fb7e2d, 0xcf2794e0277187b7, 0x18765564cd99a68d, 0xcbc9466e58fee3ce, 0xab0200f58b01d137,
		0x93f5f5799a932462, 0x9e0082df0ba9e4b0, 0x7a5dbbc594ddb9f3, 0xf4b32f46226bada7, 0x751e8fbc860ee5fb, 0x14ea5627c0843d90, 0xf723ca908e7af2ee, 0xa129ca6149be45e5,
	} {
		if got := k.Sum(rising(n)); got != want {
			t.Errorf("Sum of 00 01 .. (%d bytes) = %016x: want %016x", n, got, want)
		}
	}
	if k.Sum(nil) != 0x726fdb47dd0e0e31 || k.Sum([]byte{}) != 0x726fdb47dd0e0e31 {
		t.Errorf("Sum of nothing: %x, %x", k.Sum(nil), k.Sum([]byte{}))
	}
}

// P7.2
func TestSumAsWorded(t *testing.T) {
	for _, key := range keys() {
		k := made(t, key)
		for _, b := range rows() {
			if got, want := k.Sum(b), plain(key, b); got != want {
				t.Errorf("key %q: Sum of %d bytes (%.20x..) = %016x: want %016x", key, len(b), b, got, want)
			}
		}
	}
}

// P7.2: how many bytes there are counts, modulo 256; noughts behind them are seen by it.
func TestCountIsSeen(t *testing.T) {
	k := made(t, "kkkkkkkkkkkkkkkk")
	seen := map[uint64]int{}
	for n := range 600 {
		s := k.Sum(make([]byte, n))
		if s != plain("kkkkkkkkkkkkkkkk", make([]byte, n)) {
			t.Errorf("Sum of %d noughts = %x", n, s)
		}
		if m, there := seen[s]; there {
			t.Errorf("%d and %d noughts have the same sum", m, n)
		}
		seen[s] = n
	}
}

// P7.2
func TestEachBitIsSeen(t *testing.T) {
	k := made(t, string(rising(16)))
	for _, n := range []int{1, 7, 8, 9, 12, 15, 16, 17, 24} {
		b := rising(n)
		for i := range 8 * n {
			c := slices.Clone(b)
			c[i/8] ^= 1 << (i % 8)
			if k.Sum(c) == k.Sum(b) {
				t.Errorf("%d bytes: bit %d isn't seen", n, i)
			}
		}
	}
}

// P7.2
func TestLongRow(t *testing.T) {
	key := "abcdefghijklmnop"
	b := randomRow(rand.New(rand.NewSource(72)), 70001)
	if got, want := made(t, key).Sum(b), plain(key, b); got != want {
		t.Errorf("Sum of a long row = %x: want %x", got, want)
	}
}

// someInts are numbers at all edges that the chapter names.
func someInts() []int {
	l := []int{math.MinInt, math.MinInt + 1, math.MaxInt - 1, math.MaxInt, 258, 65535, 65536}
	for _, n := range []int{-2, -1, 0, 1, 2, 31, 32} {
		l = append(l, n, 1<<8+n, 1<<31+n, 1<<32+n, 1<<33+n, -1<<31+n, -1<<32+n, 1<<40+n, 1<<62+n)
	}
	return l
}

// P7.2, P7.3
func TestOf(t *testing.T) {
	for _, key := range keys()[:6] {
		k := made(t, key)
		for _, slot := range someInts() {
			for _, birth := range someInts() {
				b := twelve(slot, birth)
				if got := k.Of(slot, birth); got != k.Sum(b) {
					t.Errorf("key %q: Of(%d, %d) = %x: want the sum of %x, %x", key, slot, birth, got, b, k.Sum(b))
				}
			}
		}
	}
}

// P7.2
func TestOfByHand(t *testing.T) {
	k := made(t, string(rising(16)))
	for _, x := range []struct {
		slot, birth int
		bytes       string
	}{
		{0, 0, "\x00\x00\x00\x00\x00\x00\x00\x00\x00\x00\x00\x00"}, {3, 258, "\x03\x00\x00\x00\x02\x01\x00\x00\x00\x00\x00\x00"},
		{-1, -1, "\xff\xff\xff\xff\xff\xff\xff\xff\xff\xff\xff\xff"}, {-2, 1, "\xfe\xff\xff\xff\x01\x00\x00\x00\x00\x00\x00\x00"},
		{1 << 32, 1 << 32, "\x00\x00\x00\x00\x00\x00\x00\x00\x01\x00\x00\x00"}, {0x01020304, 0x0102030405060708, "\x04\x03\x02\x01\x08\x07\x06\x05\x04\x03\x02\x01"},
		{31, 1 << 20, "\x1f\x00\x00\x00\x00\x00\x10\x00\x00\x00\x00\x00"}, {0, math.MinInt, "\x00\x00\x00\x00\x00\x00\x00\x00\x00\x00\x00\x80"},
	} {
		if got, want := k.Of(x.slot, x.birth), plain(string(rising(16)), []byte(x.bytes)); got != want {
			t.Errorf("Of(%d, %d) = %x: want %x", x.slot, x.birth, got, want)
		}
	}
}

// P7.3
func TestSlotsAlike(t *testing.T) {
	k := made(t, "0123456789abcdef")
	for _, slot := range []int{0, 1, 31, -1, 1 << 31} {
		for _, birth := range []int{0, 1, -7, 1 << 40} {
			tag := k.Of(slot, birth)
			for _, far := range []int{1 << 32, 1 << 33, 5 << 32, -1 << 32, 1 << 62, math.MinInt} {
				if k.Of(slot+far, birth) != tag {
					t.Errorf("Of(%d, %d) isn't Of(%d, %d)", slot+far, birth, slot, birth)
				}
				if k.Of(slot, birth+far) == tag {
					t.Errorf("Of(%d, %d) is Of(%d, %d): births aren't taken modulo 2^32", slot, birth+far, slot, birth)
				}
			}
			if k.Of(slot+1<<31, birth) == tag || k.Of(slot+1, birth) == tag || k.Of(slot, birth+1) == tag {
				t.Errorf("slots or births beside %d, %d have its tag", slot, birth)
			}
		}
	}
}

// P7.3
func TestKeysByTurns(t *testing.T) {
	key := "0123456789abcdef"
	a, b, c := made(t, key), made(t, key), made(t, "fedcba9876543210")
	r := rand.New(rand.NewSource(73))
	for range 300 {
		row := randomRow(r, r.Intn(40))
		for _, k := range []*Key{a, b, c}[:r.Intn(4)] {
			k.Sum(row[:r.Intn(len(row)+1)])
			k.Of(r.Int(), r.Int())
		}
		if want := plain(key, row); a.Sum(row) != want || b.Sum(row) != want || c.Sum(row) == want {
			t.Fatalf("Sum of %x by turns: %x, %x, %x: want twice %x", row, a.Sum(row), b.Sum(row), c.Sum(row), want)
		}
		if slot, birth := r.Int(), r.Int(); a.Of(slot, birth) != b.Of(slot, birth) {
			t.Fatalf("Of(%d, %d): %x, %x", slot, birth, a.Of(slot, birth), b.Of(slot, birth))
		}
	}
}

// P7.2
func TestSame(t *testing.T) {
	r := rand.New(rand.NewSource(74))
	l := []uint64{0, 1, math.MaxUint64, math.MaxUint64 - 1, 1 << 63, 1 << 32, 1<<32 - 1, 0x726fdb47dd0e0e31}
	for range 50 {
		l = append(l, r.Uint64())
	}
	for i, a := range l {
		for j, b := range l {
			if Same(a, b) != (i == j) {
				t.Errorf("Same(%x, %x) = %v", a, b, i != j)
			}
		}
		for bit := range 64 {
			if b := a ^ 1<<bit; Same(a, b) || Same(b, a) {
				t.Errorf("Same(%x, %x): bit %d isn't seen", a, b, bit)
			}
		}
	}
}

// R3, R4: what is handed in stays as it is, what lies behind its length too, and that isn't read.
func TestArgumentsStay(t *testing.T) {
	key, behind := string(rising(16)), strings.Repeat("M", 40)
	k := made(t, key)
	for n := range 40 {
		b := []byte(string(rising(n)) + behind)
		if got := k.Sum(b[:n]); got != plain(key, rising(n)) {
			t.Errorf("Sum of %d bytes with others behind them: %x", n, got)
		}
		if string(b) != string(rising(n))+behind {
			t.Fatalf("the bytes have become %x", b)
		}
	}
}

// R4: bytes may be written over once their sum was told.
func TestArgumentsAreNotKept(t *testing.T) {
	room := make([]byte, 16)
	copy(room, "0123456789abcdef")
	key := string(room)
	k := made(t, key)
	for i := range room {
		room[i] = 0xff
	}
	row := []byte("sessions that beget sessions")
	want := plain("0123456789abcdef", row)
	if k.Sum(row) != want {
		t.Errorf("Sum = %x: want %x", k.Sum(row), want)
	}
	text := slices.Clone(row)
	for i := range row {
		row[i] = 0
	}
	if k.Sum(text) != want || k.Sum(row) != plain("0123456789abcdef", make([]byte, len(row))) {
		t.Error("bytes that were written over are kept")
	}
}
