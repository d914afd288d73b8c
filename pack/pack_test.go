package pack

import (
	"bytes"
	"encoding/binary"
	"encoding/hex"
	"errors"
	"math"
	"math/big"
	"math/rand"
	"slices"
	"strings"
	"testing"
	"unsafe"

	"lineage/api"
)

// tells checks an error's number, against all numbers; no error of this layer has a place.
func tells(t *testing.T, what string, err error, no api.Errno) {
	t.Helper()
	for n := api.OK; n <= api.ErrState+1; n++ {
		want := n == no && no != api.OK
		if errors.Is(err, n) != want {
			t.Errorf("%q: errors.Is(%v, %d): want just %d", what, err, n, no)
		}
	}
	if no == api.OK && err != nil {
		t.Errorf("%q: %v: want no error", what, err)
	}
	var f api.Fault
	if errors.As(err, &f) {
		t.Errorf("%q: a place %+v: want none", what, f)
	}
}

func unhex(t *testing.T, s string) []byte {
	t.Helper()
	b, err := hex.DecodeString(strings.ReplaceAll(s, " ", ""))
	if err != nil {
		t.Fatal(err)
	}
	return b
}

// The plain sevens: a number is cut to seven bits at a time, from its text of bits.

func plainSevens(v uint64) []byte {
	bits := new(big.Int).SetUint64(v).Text(2)
	out := []byte{}
	for {
		cut := max(0, len(bits)-7)
		n, _ := new(big.Int).SetString(bits[cut:], 2)
		bits = strings.TrimLeft(bits[:cut], "0")
		if bits == "" {
			return append(out, byte(n.Int64()))
		}
		out = append(out, byte(n.Int64())+128)
	}
}

func plainBytes(s string) []byte { return append(plainSevens(uint64(len(s))), s...) }

// plainNumber is the number ahead in b, and in how many bytes; numbers have no bound here.
func plainNumber(b []byte) (uint64, int, api.Errno) {
	v := new(big.Int)
	for i := 0; ; i++ {
		if i >= len(b) {
			return 0, 0, api.ErrShort
		}
		if i+1 == 10 && b[i] != 0 && b[i] != 1 {
			return 0, 0, api.ErrForm
		}
		if i+1 != 1 && b[i] == 0 {
			return 0, 0, api.ErrForm
		}
		seven := big.NewInt(int64(b[i] & 0x7f))
		v.Add(v, seven.Lsh(seven, uint(7*i)))
		if b[i] < 128 {
			return v.Uint64(), i + 1, api.OK
		}
	}
}

func plainText(b []byte, most int) (string, int, api.Errno) {
	v, n, no := plainNumber(b)
	if no != api.OK {
		return "", 0, no
	}
	size, bound := new(big.Int).SetUint64(v), big.NewInt(int64(max(most, 0)))
	if size.Cmp(bound) > 0 {
		return "", 0, api.ErrLong
	}
	if size.Cmp(big.NewInt(int64(len(b)-n))) > 0 {
		return "", 0, api.ErrShort
	}
	end := n + int(v)
	return string(b[n:end]), end, api.OK
}

// numbers: the edges, and where one more byte is needed.
func numbers() []uint64 {
	l := []uint64{0, 1, 2, 126, 127, 128, 129, 255, 256, 300, 16383, 16384, 1<<63 - 1, 1 << 63, 1<<63 + 1, math.MaxUint64 - 1, math.MaxUint64}
	for i := range 64 {
		l = append(l, 1<<i-1, 1<<i, 1<<i+1)
	}
	r := rand.New(rand.NewSource(10))
	for range 500 {
		l = append(l, r.Uint64()>>r.Intn(64))
	}
	return l
}

func texts() []string {
	l := []string{"", "a", "ab", "\x00", "\xff", "\x80\x01", "ä\n\xf0\x28", "日本"}
	for _, n := range []int{1, 126, 127, 128, 129, 255, 256, 16383, 16384} {
		l = append(l, strings.Repeat("x", n), strings.Repeat("\x00", n), strings.Repeat("\xff", n))
	}
	return l
}

func put(v uint64) []byte {
	w := New()
	w.Number(v)
	return w.Bytes()
}

func putText(s string) []byte {
	w := New()
	w.Text(s)
	return w.Bytes()
}

// noNumber asks for one that isn't there: twice, since the reader stands where it stood.
func noNumber(t *testing.T, b []byte, no api.Errno) {
	t.Helper()
	r := Open(b)
	for range 2 {
		v, err := r.Number()
		tells(t, hex.EncodeToString(b), err, no)
		if v != 0 || r.Left() != len(b) {
			t.Errorf("Number of %x = %d beside an error, %d bytes left", b, v, r.Left())
		}
	}
}

func noText(t *testing.T, b []byte, most int, no api.Errno) {
	t.Helper()
	r := Open(b)
	for range 2 {
		s, err := r.Text(most)
		tells(t, hex.EncodeToString(b), err, no)
		if s != "" || r.Left() != len(b) {
			t.Errorf("Text(%d) of %x = %q beside an error, %d bytes left", most, b, s, r.Left())
		}
	}
}

// P10.1, P10.3, P10.4
func TestExamples(t *testing.T) {
	for v, want := range map[uint64]string{0: "00", 127: "7f", 128: "80 01", 300: "ac 02", math.MaxUint64: strings.Repeat("ff ", 9) + "01"} {
		if b := put(v); !bytes.Equal(b, unhex(t, want)) {
			t.Errorf("Number(%d): %x: want %s", v, b, want)
		}
		r := Open(unhex(t, want))
		if got, err := r.Number(); got != v || err != nil || r.Left() != 0 {
			t.Errorf("Number of %s = %d, %v", want, got, err)
		}
	}
	for s, want := range map[string]string{"ab": "02 61 62", "": "00"} {
		if b := putText(s); !bytes.Equal(b, unhex(t, want)) {
			t.Errorf("Text(%q): %x: want %s", s, b, want)
		}
		r := Open(unhex(t, want))
		if got, err := r.Text(5); got != s || err != nil || r.Left() != 0 {
			t.Errorf("Text of %s = %q, %v", want, got, err)
		}
	}
	nine := strings.Repeat("ff ", 9)
	for s, no := range map[string]api.Errno{"": api.ErrShort, "80": api.ErrShort, "80 00": api.ErrForm, nine + "02": api.ErrForm, nine: api.ErrShort, nine + "ff": api.ErrForm} {
		noNumber(t, unhex(t, s), no)
		noText(t, unhex(t, s), 5, no)
	}
	noText(t, unhex(t, "02 61 62"), 1, api.ErrLong)
	noText(t, unhex(t, "03 61 62"), 5, api.ErrShort)
}

// P10.1
func TestNewWriter(t *testing.T) {
	w := New()
	if b := w.Bytes(); len(b) != 0 {
		t.Errorf("a new writer has %x", b)
	}
	other := New()
	w.Number(5)
	w.Text("a")
	if b := other.Bytes(); len(b) != 0 {
		t.Errorf("another writer has %x", b)
	}
}

// P10.1
func TestPutNumber(t *testing.T) {
	all, want := New(), []byte{}
	for _, v := range numbers() {
		b := put(v)
		if !bytes.Equal(b, plainSevens(v)) {
			t.Errorf("Number(%d): %x: want %x", v, b, plainSevens(v))
		}
		if !bytes.Equal(b, binary.AppendUvarint(nil, v)) {
			t.Errorf("Number(%d): %x: want as the library does", v, b)
		}
		all.Number(v)
		want = append(want, b...)
		if !bytes.Equal(all.Bytes(), want) {
			t.Fatalf("Number(%d) behind others: %x: want %x", v, all.Bytes(), want)
		}
	}
}

// P10.1
func TestPutText(t *testing.T) {
	all, want := New(), []byte{}
	for _, s := range texts() {
		b := putText(s)
		if !bytes.Equal(b, plainBytes(s)) {
			t.Errorf("Text of %d bytes: %x", len(s), b)
		}
		all.Text(s)
		want = append(want, b...)
		if !bytes.Equal(all.Bytes(), want) {
			t.Fatalf("Text of %d bytes behind others", len(s))
		}
	}
	for n, ahead := range map[int]string{0: "00", 1: "01", 127: "7f", 128: "8001"} {
		if got := putText(strings.Repeat("x", n)); !bytes.Equal(got, append(unhex(t, ahead), strings.Repeat("x", n)...)) {
			t.Errorf("Text of %d bytes: %x", n, got)
		}
	}
}

// P10.1, R4: a writer goes on behind Bytes, and neither turns what the other has, whatever its taker writes or appends.
func TestBytesAreNew(t *testing.T) {
	for _, many := range []int{0, 1, 2, 3, 5, 8, 9, 31, 32, 33, 100} {
		w := New()
		for range many {
			w.Number(7)
		}
		want := bytes.Repeat([]byte{7}, many)
		first, second := w.Bytes(), w.Bytes()
		for i := range first[:cap(first)] {
			first[:cap(first)][i] = 9
		}
		first = append(first, 9, 9, 9)
		if !bytes.Equal(second, want) || !bytes.Equal(w.Bytes(), want) {
			t.Fatalf("%d numbers: the writer's own memory was handed out", many)
		}
		w.Number(300)
		w.Text("b")
		if !bytes.Equal(second, want) {
			t.Errorf("%d numbers: the writer wrote into what was handed out: %x", many, second)
		}
		for i, x := range second[:cap(second)] {
			if i >= len(second) && x != 0 {
				t.Errorf("%d numbers: the writer wrote behind what was handed out: %x", many, second[:cap(second)])
			}
		}
		if got := w.Bytes(); !bytes.Equal(got, append(want, 0xac, 2, 1, 'b')) {
			t.Errorf("%d numbers: it goes on: %x", many, got)
		}
		if slices.Contains(first[many:], 0xac) {
			t.Errorf("%d numbers: the writer wrote into what its taker appended: %x", many, first)
		}
	}
}

// P10.2
func TestOpen(t *testing.T) {
	for _, b := range [][]byte{nil, {}} {
		r := Open(b)
		if r.Left() != 0 {
			t.Errorf("Left of nothing: %d", r.Left())
		}
		tells(t, "End of nothing", r.End(), api.OK)
		if v, err := r.Number(); v != 0 || err != api.ErrShort {
			t.Errorf("Number of nothing: %d, %v", v, err)
		}
	}
	for n := 1; n < 300; n++ {
		r := Open(make([]byte, n))
		if r.Left() != n {
			t.Errorf("Left of %d bytes: %d", n, r.Left())
		}
		tells(t, "End", r.End(), api.ErrLong)
	}
}

// P10.2: at the beginning, between, and at the end; asked as often as one likes.
func TestLeftAndEnd(t *testing.T) {
	w := New()
	w.Number(300)
	w.Text("abc")
	w.Text("")
	w.Number(0)
	r := Open(w.Bytes())
	left := func(want int) {
		t.Helper()
		for range 3 {
			if r.Left() != want {
				t.Errorf("Left: %d: want %d", r.Left(), want)
			}
			no := api.ErrLong
			if want == 0 {
				no = api.OK
			}
			tells(t, "End", r.End(), no)
		}
	}
	left(8)
	r.Number()
	left(6)
	r.Text(3)
	left(2)
	r.Text(0)
	left(1)
	r.Number()
	left(0)
	r.Number()
	left(0)
}

// P10.2, R3, R4: a reader keeps its own copy, of the list's length alone, and changes nothing of what it was handed.
func TestReaderKeepsACopy(t *testing.T) {
	room := []byte{0x80, 1, 3, 'a', 'b', 'c', 2, 'd', 'e', 'f'}
	b := room[:8]
	r, other := Open(b), Open(b)
	for i := range room {
		room[i] = 0xee
	}
	if v, err := r.Number(); v != 128 || err != nil {
		t.Errorf("Number: %d, %v", v, err)
	}
	if s, err := r.Text(9); s != "abc" || err != nil {
		t.Errorf("Text: %q, %v", s, err)
	}
	if s, err := r.Text(9); s != "" || err != api.ErrShort || r.Left() != 2 {
		t.Errorf("Text that would go on in the spare room: %q, %v", s, err)
	}
	if other.Left() != 8 {
		t.Errorf("another reader: %d", other.Left())
	}
	for i, x := range room {
		if x != 0xee {
			t.Errorf("byte %d was written: %x", i, x)
		}
	}
}

// P10.3: of every number, cut off behind each of its bytes, and with more behind it.
func TestTakeNumber(t *testing.T) {
	for _, v := range numbers() {
		b := plainSevens(v)
		for n := range b {
			noNumber(t, b[:n], api.ErrShort)
		}
		for _, behind := range []string{"", "\x00", "\x01", "\x80", "\xff", "abc"} {
			r := Open(append(bytes.Clone(b), behind...))
			got, err := r.Number()
			tells(t, "Number", err, api.OK)
			if got != v || r.Left() != len(behind) {
				t.Errorf("Number of %x and %q: %d, %d left: want %d", b, behind, got, r.Left(), v)
			}
		}
	}
}

// P10.3: all rows of one and two bytes, and many of three.
func TestTakeNumberAsWorded(t *testing.T) {
	check := func(b []byte) {
		want, n, no := plainNumber(b)
		r := Open(b)
		got, err := r.Number()
		if got != want || r.Left() != len(b)-n || (err == nil) != (no == api.OK) || err != nil && err != no {
			t.Fatalf("Number of %x = %d, %v, %d left: want %d, %v", b, got, err, r.Left(), want, no)
		}
		if lib, m := binary.Uvarint(b); err == nil && (lib != got || m != n) {
			t.Fatalf("Number of %x = %d: the library reads %d", b, got, lib)
		}
	}
	for i := range 256 {
		check([]byte{byte(i)})
		for j := range 256 {
			check([]byte{byte(i), byte(j)})
			for _, k := range []byte{0, 1, 2, 127, 128, 129, 255} {
				check([]byte{byte(i), byte(j), k})
			}
		}
	}
}

// P10.3: a byte 0 that is not the first one; ErrForm, whatever is behind it.
func TestTakeNoughtBehind(t *testing.T) {
	for n := 1; n < 12; n++ {
		for _, ahead := range []byte{0x80, 0x81, 0xff} {
			for _, behind := range []string{"", "\x00", "\x01", "\xff"} {
				b := append(append(bytes.Repeat([]byte{ahead}, n), 0), behind...)
				noNumber(t, b, api.ErrForm)
				noText(t, b, 99, api.ErrForm)
			}
		}
	}
	r := Open([]byte{0, 0, 0x80, 1})
	for _, want := range []uint64{0, 0, 128} {
		if v, err := r.Number(); v != want || err != nil {
			t.Errorf("a byte 0 that is the first one: %d, %v", v, err)
		}
	}
}

// P10.3: the tenth byte holds one bit.
func TestTakeTenthByte(t *testing.T) {
	for _, ahead := range []byte{0x80, 0xff} {
		nine := bytes.Repeat([]byte{ahead}, 9)
		noNumber(t, nine, api.ErrShort)
		for c := range 256 {
			for _, behind := range []string{"", "\x00", "\x01", "\xff"} {
				b := append(append(bytes.Clone(nine), byte(c)), behind...)
				if c != 1 {
					noNumber(t, b, api.ErrForm)
					noText(t, b, math.MaxInt, api.ErrForm)
					continue
				}
				want := uint64(1 << 63)
				if ahead == 0xff {
					want = math.MaxUint64
				}
				r := Open(b)
				if v, err := r.Number(); v != want || err != nil || r.Left() != len(behind) {
					t.Errorf("Number of %x: %d, %v", b, v, err)
				}
			}
		}
	}
	for n := 10; n < 30; n++ {
		noNumber(t, bytes.Repeat([]byte{0xff}, n), api.ErrForm)
		noNumber(t, bytes.Repeat([]byte{0x80}, n), api.ErrForm)
	}
}

// P10.4: most below 0, 0, just what there is, and one less or more.
func TestTakeTextMost(t *testing.T) {
	for _, s := range texts() {
		b := append(plainBytes(s), "behind"...)
		for _, most := range []int{math.MinInt, -1 << 32, -len(s), -1, 0, 1, len(s) - 1, len(s), len(s) + 1, 1 << 32, math.MaxInt} {
			if max(most, 0) < len(s) {
				noText(t, b, most, api.ErrLong)
				continue
			}
			r := Open(b)
			got, err := r.Text(most)
			tells(t, "Text", err, api.OK)
			if got != s || r.Left() != 6 {
				t.Errorf("Text(%d) of %d bytes: %d bytes, %d left", most, len(s), len(got), r.Left())
			}
		}
	}
}

// P10.4: fewer bytes than it says, by one and by many.
func TestTakeTextCutOff(t *testing.T) {
	for _, s := range []string{"a", "abc", strings.Repeat("x", 127), strings.Repeat("x", 128), strings.Repeat("\x00", 300)} {
		b := plainBytes(s)
		for n := range b {
			noText(t, b[:n], len(s), api.ErrShort)
			noText(t, b[:n], math.MaxInt, api.ErrShort)
		}
	}
	for _, v := range []uint64{1 << 31, 1 << 32, 1 << 40, math.MaxInt64 - 1, math.MaxInt64} {
		b := append(plainSevens(v), "abc"...)
		noText(t, b, math.MaxInt, api.ErrShort)
		noText(t, b, int(v), api.ErrShort)
		noText(t, b, int(v)-1, api.ErrLong)
		noText(t, b, 3, api.ErrLong)
	}
	for _, v := range []uint64{1 << 63, 1<<63 + 1, math.MaxUint64 - 1, math.MaxUint64} {
		b := append(plainSevens(v), "abc"...)
		for _, most := range []int{math.MinInt, -1, 0, 3, math.MaxInt} {
			noText(t, b, most, api.ErrLong)
		}
	}
}

// P10.4: which of several errors is told.
func TestTakeTextFirstError(t *testing.T) {
	noText(t, unhex(t, "80"), -1, api.ErrShort)
	noText(t, unhex(t, "80 00"), -1, api.ErrForm)
	noText(t, unhex(t, "05 61"), 4, api.ErrLong)
	noText(t, unhex(t, "05 61"), 5, api.ErrShort)
	noText(t, unhex(t, "05"), 0, api.ErrLong)
	noText(t, unhex(t, "01"), 0, api.ErrLong)
	noText(t, unhex(t, "01"), 1, api.ErrShort)
	if s, err := Open([]byte{0}).Text(math.MinInt); s != "" || err != nil {
		t.Errorf("the empty text: %q, %v", s, err)
	}
}

// P10.5: also where the reader went on already, and other calls go on behind an error.
func TestErrorsMoveNothing(t *testing.T) {
	b := unhex(t, "07 03 61 62 63 ac 02 05 61")
	r := Open(b)
	if v, err := r.Number(); v != 7 || err != nil {
		t.Fatal(v, err)
	}
	for range 3 {
		if s, err := r.Text(2); s != "" || err != api.ErrLong || r.Left() != 8 {
			t.Fatalf("Text: %q, %v, %d left", s, err, r.Left())
		}
	}
	if s, err := r.Text(3); s != "abc" || err != nil {
		t.Fatal(s, err)
	}
	if s, err := r.Text(1000); s != "" || err != api.ErrShort || r.Left() != 4 {
		t.Fatalf("Text: %q, %v, %d left", s, err, r.Left())
	}
	if v, err := r.Number(); v != 300 || err != nil {
		t.Fatal(v, err)
	}
	if s, err := r.Text(9); s != "" || err != api.ErrShort || r.Left() != 2 {
		t.Fatalf("Text: %q, %v, %d left", s, err, r.Left())
	}
	for _, want := range []uint64{5, 0x61} {
		if v, err := r.Number(); v != want || err != nil {
			t.Fatal(v, err)
		}
	}
	if v, err := r.Number(); v != 0 || err != api.ErrShort || r.End() != nil {
		t.Fatal(v, err)
	}
}

// item is one thing that is put: a text, or a number.
type item struct {
	text bool
	s    string
	v    uint64
}

func items(r *rand.Rand) []item {
	l := make([]item, r.Intn(20))
	for i := range l {
		l[i] = item{v: r.Uint64() >> r.Intn(64)}
		if r.Intn(2) == 0 {
			b := make([]byte, r.Intn(200)>>r.Intn(8))
			r.Read(b)
			l[i] = item{text: true, s: string(b)}
		}
	}
	return l
}

// P10.6
func TestTakenAsPut(t *testing.T) {
	rnd := rand.New(rand.NewSource(106))
	for range 2000 {
		l := items(rnd)
		w, want := New(), []byte{}
		for _, x := range l {
			if x.text {
				w.Text(x.s)
				want = append(want, plainBytes(x.s)...)
			} else {
				w.Number(x.v)
				want = append(want, plainSevens(x.v)...)
			}
		}
		b := w.Bytes()
		if !bytes.Equal(b, want) {
			t.Fatalf("%d items: %x: want %x", len(l), b, want)
		}
		r := Open(b)
		for _, x := range l {
			got, err := item{text: x.text}, error(nil)
			if x.text {
				got.s, err = r.Text(len(x.s) + rnd.Intn(2))
			} else {
				got.v, err = r.Number()
			}
			if got != x || err != nil {
				t.Fatalf("%t %q %d: taken %q, %d, %v", x.text, x.s, x.v, got.s, got.v, err)
			}
		}
		if r.Left() != 0 || r.End() != nil {
			t.Fatalf("%d left", r.Left())
		}
	}
}

// P10.3 to P10.6: rows of calls on random bytes, against the plain reading; what was taken is put again.
func TestTakenIsPutAgain(t *testing.T) {
	rnd := rand.New(rand.NewSource(107))
	seen := map[api.Errno]int{}
	for range 5000 {
		b := make([]byte, rnd.Intn(40))
		for i := range b {
			b[i] = []byte{0, 1, 2, 5, 127, 128, 129, 255, byte(rnd.Intn(256))}[rnd.Intn(9)]
		}
		r, w, at := Open(b), New(), 0
		for range 30 {
			var n int
			var no api.Errno
			var err error
			if rnd.Intn(2) == 0 {
				var v, want uint64
				want, n, no = plainNumber(b[at:])
				if v, err = r.Number(); v != want {
					t.Fatalf("Number of %x: %d: want %d", b[at:], v, want)
				}
				if err == nil {
					w.Number(v)
				}
			} else {
				var s, want string
				most := rnd.Intn(9) - 2
				want, n, no = plainText(b[at:], most)
				if s, err = r.Text(most); s != want {
					t.Fatalf("Text(%d) of %x: %q: want %q", most, b[at:], s, want)
				}
				if err == nil {
					w.Text(s)
				}
			}
			seen[no]++
			at += n
			if (err == nil) != (no == api.OK) || err != nil && err != no || r.Left() != len(b)-at {
				t.Fatalf("at %d of %x: %v, %d left: want %v", at, b, err, r.Left(), no)
			}
			if !bytes.Equal(w.Bytes(), b[:at]) {
				t.Fatalf("put again: %x: want %x", w.Bytes(), b[:at])
			}
		}
	}
	for _, no := range []api.Errno{api.OK, api.ErrShort, api.ErrForm, api.ErrLong} {
		if seen[no] < 100 {
			t.Errorf("%v came %d times only", no, seen[no])
		}
	}
}

// R4: texts that were taken share no memory with one another.
func TestTextsAreNew(t *testing.T) {
	b := append(plainBytes("abc"), plainBytes("abc")...)
	r, other := Open(b), Open(b)
	one, _ := r.Text(3)
	two, _ := r.Text(3)
	three, _ := other.Text(3)
	at := func(s string) uintptr { return uintptr(unsafe.Pointer(unsafe.StringData(s))) }
	for _, pair := range [][2]string{{one, two}, {one, three}, {two, three}, {two, r.left}} {
		if at(pair[0]) == at(pair[1]) {
			t.Errorf("%q and %q are one memory", pair[0], pair[1])
		}
	}
	whole := Open(b)
	first, _ := whole.Text(3)
	if d := at(whole.left) - at(first); d == 3 {
		t.Errorf("the text is a piece of the reader's bytes")
	}
}

// R5: readers and writers know nothing of each other.
func TestApart(t *testing.T) {
	b := append(plainSevens(300), plainBytes("abc")...)
	one, two := Open(b), Open(b)
	one.Number()
	one.Text(1)
	if v, err := two.Number(); v != 300 || err != nil || one.Left() != 4 {
		t.Errorf("another reader: %d, %v", v, err)
	}
	w, x := New(), New()
	w.Number(1)
	x.Text("b")
	w.Number(2)
	if !bytes.Equal(w.Bytes(), []byte{1, 2}) || !bytes.Equal(x.Bytes(), []byte{1, 'b'}) {
		t.Errorf("writers: %x, %x", w.Bytes(), x.Bytes())
	}
}

// R1: all bytes are read, or refused by one of the three errors.
func FuzzReader(f *testing.F) {
	f.Add([]byte{}, 0)
	f.Add([]byte{2, 'a', 'b'}, 1)
	f.Add([]byte{0x80, 0}, -1)
	f.Add(bytes.Repeat([]byte{0xff}, 10), math.MaxInt)
	f.Fuzz(func(t *testing.T, b []byte, most int) {
		wantV, n, no := plainNumber(b)
		r := Open(b)
		v, err := r.Number()
		if v != wantV || r.Left() != len(b)-n || (err == nil) != (no == api.OK) || err != nil && err != no {
			t.Fatalf("Number of %x = %d, %v: want %d, %v", b, v, err, wantV, no)
		}
		wantS, n, no := plainText(b, most)
		r = Open(b)
		s, err := r.Text(most)
		if s != wantS || r.Left() != len(b)-n || (err == nil) != (no == api.OK) || err != nil && err != no {
			t.Fatalf("Text(%d) of %x = %q, %v: want %q, %v", most, b, s, err, wantS, no)
		}
	})
}
