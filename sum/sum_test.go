package sum

import (
	"bytes"
	"hash/crc32"
	"math/rand"
	"slices"
	"strings"
	"testing"
)

// plain is the sum as the chapter words it, on 32 places that each hold 0 or 1, the lowest first.
func plain(b []byte) uint32 {
	var reg [32]int
	for i := range reg {
		reg[i] = 1
	}
	for _, c := range b {
		for i := range 8 {
			reg[i] = (reg[i] + int(c>>i&1)) % 2
		}
		for range 8 {
			fell := reg[0]
			copy(reg[:], reg[1:])
			reg[31] = 0
			for i := range reg {
				reg[i] = (reg[i] + fell*int(uint32(0xEDB88320)>>i&1)) % 2
			}
		}
	}
	sum := uint32(0)
	for i, bit := range reg {
		sum |= uint32(1-bit) << i
	}
	return sum
}

// rows are rows of many lengths: of noughts, of ones, and of random bytes.
func rows() [][]byte {
	r := rand.New(rand.NewSource(6))
	l := [][]byte{nil, {}, []byte("123456789")}
	for _, n := range []int{1, 2, 3, 4, 5, 7, 8, 9, 15, 16, 17, 31, 32, 33, 63, 64, 65, 255, 256, 257, 512, 1000} {
		l = append(l, make([]byte, n), bytes.Repeat([]byte{0xff}, n), randomRow(r, n), randomRow(r, n))
	}
	return l
}

func randomRow(r *rand.Rand, n int) []byte {
	b := make([]byte, n)
	r.Read(b)
	return b
}

// turned is a copy of b in which the bits from place at on are turned that are 1 in mask; bits are counted from each byte's lowest on.
func turned(b []byte, at int, mask uint64) []byte {
	out := slices.Clone(b)
	for i := range 64 {
		if mask>>i&1 == 1 {
			out[(at+i)/8] ^= 1 << ((at + i) % 8)
		}
	}
	return out
}

// withSum is b and its sum's four bytes behind it, the lowest first.
func withSum(b []byte) []byte {
	n := Of(b)
	return append(slices.Clone(b), byte(n), byte(n>>8), byte(n>>16), byte(n>>24))
}

// P6.1
func TestOfExamples(t *testing.T) {
	for _, x := range []struct {
		bytes string
		want  uint32
	}{
		{"", 0}, {"\x00", 0xD202EF8D}, {"123456789", 0xCBF43926}, {"a", 0xE8B7BE43}, {"abc", 0x352441C2},
		{"\xff", 0xFF000000}, {"\xff\xff\xff\xff", 0xFFFFFFFF}, {"\x00\x00\x00\x00", 0x2144DF1C}, {"The quick brown fox jumps over the lazy dog", 0x414FA339},
	} {
		if got := Of([]byte(x.bytes)); got != x.want {
			t.Errorf("Of(%q) = %08X: want %08X", x.bytes, got, x.want)
		}
	}
	if Of(nil) != 0 || Of([]byte{}) != 0 {
		t.Errorf("Of no bytes: %X, %X: want 0", Of(nil), Of([]byte{}))
	}
}

// P6.1
func TestOfEachByte(t *testing.T) {
	seen := map[uint32]int{}
	for c := range 256 {
		b := []byte{byte(c)}
		got := Of(b)
		if got != plain(b) {
			t.Errorf("Of(%02X) = %08X: want %08X", c, got, plain(b))
		}
		if other, there := seen[got]; there {
			t.Errorf("Of(%02X) = Of(%02X)", c, other)
		}
		seen[got] = c
	}
}

// P6.1
func TestOfAsWorded(t *testing.T) {
	for _, b := range rows() {
		if got := Of(b); got != plain(b) || got != crc32.ChecksumIEEE(b) {
			t.Errorf("Of(%d bytes, %.20X..) = %08X: want %08X", len(b), b, got, plain(b))
		}
	}
}

// P6.1
func TestOfLongRow(t *testing.T) {
	b := randomRow(rand.New(rand.NewSource(61)), 1<<20+3)
	if got := Of(b); got != crc32.ChecksumIEEE(b) {
		t.Errorf("Of a long row: %08X: want %08X", got, crc32.ChecksumIEEE(b))
	}
	a := bytes.Repeat([]byte("a"), 70000)
	if got := Of(a); got != plain(a) {
		t.Errorf("Of 70000 times a: %08X: want %08X", got, plain(a))
	}
}

// P6.2
func TestNewHasCountedNothing(t *testing.T) {
	s := New()
	if s.Value() != 0 || s.Value() != 0 {
		t.Errorf("Value of none: %X", s.Value())
	}
	s.Add(nil)
	s.Add([]byte{})
	s.Add([]byte("abc")[3:])
	if s.Value() != 0 {
		t.Errorf("Value behind Add of no bytes: %X", s.Value())
	}
}

// P6.2
func TestValueGoesOn(t *testing.T) {
	s, text := New(), []byte("sessions that beget sessions")
	for i, c := range text {
		s.Add([]byte{c})
		for range 2 {
			if got := s.Value(); got != plain(text[:i+1]) {
				t.Errorf("Value behind %q: %08X: want %08X", text[:i+1], got, plain(text[:i+1]))
			}
		}
		s.Add(nil)
		if got := s.Value(); got != plain(text[:i+1]) {
			t.Errorf("Value behind %q and Add of none: %08X", text[:i+1], got)
		}
	}
	s.Add(text)
	if got, want := s.Value(), plain(append(slices.Clone(text), text...)); got != want {
		t.Errorf("many bytes behind single ones: %08X: want %08X", got, want)
	}
}

// P6.2
func TestOrderCounts(t *testing.T) {
	a, b := New(), New()
	a.Add([]byte("one"))
	a.Add([]byte("two"))
	b.Add([]byte("two"))
	b.Add([]byte("one"))
	if a.Value() != plain([]byte("onetwo")) || b.Value() != plain([]byte("twoone")) || a.Value() == b.Value() {
		t.Errorf("onetwo: %08X, twoone: %08X", a.Value(), b.Value())
	}
}

// P6.2
func TestByTurns(t *testing.T) {
	r := rand.New(rand.NewSource(62))
	var sums [3]*Sum
	var all [3][]byte
	for i := range sums {
		sums[i] = New()
	}
	for range 300 {
		i, piece := r.Intn(3), randomRow(r, r.Intn(9))
		sums[i].Add(piece)
		all[i] = append(all[i], piece...)
		Of(piece)
		for k, s := range sums {
			if s.Value() != crc32.ChecksumIEEE(all[k]) {
				t.Fatalf("one of three, behind %d bytes: %08X: want %08X", len(all[k]), s.Value(), crc32.ChecksumIEEE(all[k]))
			}
		}
	}
	if late := New(); late.Value() != 0 {
		t.Errorf("New behind others: %08X", late.Value())
	}
}

// P6.3
func TestLikeThree(t *testing.T) {
	r := rand.New(rand.NewSource(63))
	for _, n := range []int{0, 1, 2, 3, 4, 5, 8, 31, 32, 33, 256, 1000} {
		for range 10 {
			a, b, c := randomRow(r, n), randomRow(r, n), randomRow(r, n)
			over := make([]byte, n)
			for i := range over {
				over[i] = a[i] ^ b[i] ^ c[i]
			}
			if Of(a)^Of(b)^Of(c) != Of(over) {
				t.Errorf("three rows of %d bytes: %08X: want %08X", n, Of(a)^Of(b)^Of(c), Of(over))
			}
			if Of(a)^Of(a)^Of(b) != Of(b) {
				t.Errorf("a row twice and another one, of %d bytes", n)
			}
		}
	}
}

// P6.4
func TestOneBitIsSeen(t *testing.T) {
	for _, b := range rows() {
		if len(b) > 260 {
			continue
		}
		sum := Of(b)
		for at := range 8 * len(b) {
			if Of(turned(b, at, 1)) == sum {
				t.Errorf("%d bytes: bit %d turned: the same sum %08X", len(b), at, sum)
			}
		}
	}
}

// P6.4
func TestWithin32PlacesIsSeen(t *testing.T) {
	r := rand.New(rand.NewSource(64))
	for _, b := range rows() {
		if len(b) < 5 || len(b) > 260 {
			continue
		}
		sum := Of(b)
		for at := range 8*len(b) - 31 {
			masks := []uint64{1 | 1<<31, 1<<32 - 1, 1 << 31, 0xEDB88320, 0xDB710641, 1 | uint64(r.Uint32())}
			for _, mask := range masks {
				if Of(turned(b, at, mask)) == sum {
					t.Errorf("%d bytes: %08X turned at %d: the same sum %08X", len(b), mask, at, sum)
				}
			}
		}
	}
}

// P6.4: one place more isn't promised, and there is a row of 33 that can't be seen: so the sum has 32 bits that count, no more.
func TestWithin33PlacesNot(t *testing.T) {
	b := []byte("lineage")
	for at := range 8*len(b) - 32 {
		if Of(turned(b, at, 0x1DB710641)) != Of(b) {
			t.Errorf("the row of 33 places turned at %d is seen", at)
		}
	}
}

// P6.5
func TestCutAnywhere(t *testing.T) {
	for _, b := range rows() {
		want := Of(b)
		for i := 0; i <= len(b); i++ {
			s := New()
			s.Add(b[:i])
			if s.Value() != Of(b[:i]) {
				t.Errorf("%d bytes, the first %d: %08X", len(b), i, s.Value())
			}
			s.Add(b[i:])
			if s.Value() != want {
				t.Errorf("%d bytes cut at %d: %08X: want %08X", len(b), i, s.Value(), want)
			}
		}
	}
}

// P6.5
func TestCutInMany(t *testing.T) {
	r := rand.New(rand.NewSource(65))
	for _, b := range rows() {
		s := New()
		for left := b; len(left) > 0; {
			n := min(len(left), r.Intn(40))
			s.Add(left[:n])
			left = left[n:]
		}
		if s.Value() != plain(b) {
			t.Errorf("%d bytes in pieces: %08X: want %08X", len(b), s.Value(), plain(b))
		}
	}
}

// P6.5
func TestOwnSumBehind(t *testing.T) {
	for _, b := range rows() {
		if got := Of(withSum(b)); got != 0x2144DF1C {
			t.Errorf("%d bytes and their sum: %08X", len(b), got)
		}
		if len(b) == 0 {
			continue
		}
		if got := Of(withSum(b)[1:]); got == 0x2144DF1C {
			t.Errorf("%d bytes, the first one missing, and the sum of the whole: %08X", len(b), got)
		}
	}
}

// R3, R4: what is handed in stays as it is, what lies behind its length too, and that isn't read.
func TestArgumentsStay(t *testing.T) {
	text := "123456789"
	for end := range len(text) + 1 {
		b := []byte(text + strings.Repeat("M", 40))
		Of(b[:end])
		s := New()
		s.Add(b[:end])
		s.Add(b[:0])
		if string(b) != text+strings.Repeat("M", 40) {
			t.Fatalf("the bytes have become %q", b)
		}
		if s.Value() != plain(b[:end]) || Of(b[:end]) != plain(b[:end]) {
			t.Errorf("%q: %08X", b[:end], s.Value())
		}
	}
}

// R4: bytes may be written over once they are counted.
func TestArgumentsAreNotKept(t *testing.T) {
	s, room := New(), make([]byte, 3)
	for _, piece := range []string{"123", "456", "789"} {
		copy(room, piece)
		s.Add(room)
		copy(room, "\xff\x00\xff")
	}
	if s.Value() != 0xCBF43926 {
		t.Errorf("123456789 through one room: %08X", s.Value())
	}
}

// R5: the same bytes have the same sum, whatever was counted before.
func TestSameAgain(t *testing.T) {
	for _, b := range rows() {
		before := Of(b)
		New().Add([]byte("others"))
		Of([]byte("others"))
		if Of(b) != before {
			t.Errorf("%d bytes: %08X, then %08X", len(b), before, Of(b))
		}
	}
}
