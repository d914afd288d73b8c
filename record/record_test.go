package record

import (
	"bytes"
	"encoding/binary"
	"errors"
	"hash/crc32"
	"math"
	"math/rand"
	"slices"
	"strings"
	"testing"
	"unsafe"

	"lineage/api"
)

// tells checks an error's number, against all numbers; no error of this layer has a place.
func tells(t *testing.T, what string, err error, no api.Errno) {
	t.Helper()
	for n := api.OK; n <= api.ErrState+1; n++ {
		want := n == no && no != api.OK
		if errors.Is(err, n) != want {
			t.Errorf("%s: errors.Is(%v, %d): want just %d", what, err, n, no)
		}
	}
	if no == api.OK && err != nil {
		t.Errorf("%s: %v: want no error", what, err)
	}
	var f api.Fault
	if errors.As(err, &f) {
		t.Errorf("%s: a place %+v: want none", what, f)
	}
}

// The plain record: the chapter's words, one by one.

// plainBlocks are a record's blocks, also of a payload that is too long.
func plainBlocks(epoch uint32, p []byte) []string {
	head := binary.LittleEndian.AppendUint32([]byte{'h'}, epoch)
	head = binary.LittleEndian.AppendUint16(head, uint16(len(p)))
	return withSum(head, p, crc32.ChecksumIEEE(slices.Concat(head, p)))
}

// withSum are the blocks of a heading, a payload and any sum.
func withSum(head, p []byte, sum uint32) []string {
	first := binary.LittleEndian.AppendUint32(bytes.Clone(head), sum)
	n := min(len(p), 245)
	l := []string{string(first) + string(p[:n])}
	for piece := range slices.Chunk(p[n:], 255) {
		l = append(l, "c"+string(piece))
	}
	return l
}

// found is a record among blocks.
type found struct {
	at, blocks int
	payload    string
}

// plainScan looks at each place for blocks that are just those of a record: of which payload, only they themselves can tell.
func plainScan(epoch uint32, l []string) []found {
	var all []found
	at := 0
	for {
		k := 1
		for ; k <= 3; k++ {
			if p, ok := plainPayload(epoch, l, at, k); ok {
				all = append(all, found{at, k, p})
				break
			}
		}
		if k > 3 {
			return all
		}
		at += k
	}
}

func plainPayload(epoch uint32, l []string, at, k int) (string, bool) {
	if at+k > len(l) || len(l[at]) < 11 {
		return "", false
	}
	p := l[at][11:]
	for _, b := range l[at+1 : at+k] {
		if b == "" {
			return "", false
		}
		p += b[1:]
	}
	return p, len(p) <= 512 && slices.Equal(plainBlocks(epoch, []byte(p)), l[at:at+k])
}

// plainCount: one block, and one more for each 255 bytes that go beyond 245.
func plainCount(n int) int {
	count := 1
	for at := 245; at < n; at += 255 {
		count++
	}
	return count
}

// lengths are the payloads' lengths that are asked of everything.
func lengths() []int { return []int{0, 1, 2, 100, 244, 245, 246, 247, 499, 500, 501, 511, 512} }

func epochs() []uint32 {
	return []uint32{0, 1, 2, 255, 256, 0x01020304, 'h', 0x68686868, 1 << 31, math.MaxUint32 - 1, math.MaxUint32}
}

// rows are payloads of n bytes: some that look like blocks' letters among them.
func rows(n int) [][]byte {
	r := rand.New(rand.NewSource(int64(n) + 12))
	any := make([]byte, n)
	r.Read(any)
	return [][]byte{any, make([]byte, n), bytes.Repeat([]byte{0xff}, n), bytes.Repeat([]byte("c"), n), bytes.Repeat([]byte("h\x07\x00\x00\x00"), n)[:n]}
}

func row(n int) []byte { return rows(n)[0] }

// framed are the blocks of records of some lengths, one behind the other, and their payloads.
func framed(t *testing.T, epoch uint32, lengths ...int) (l []string, payloads [][]byte) {
	t.Helper()
	for _, n := range lengths {
		b, err := Frame(epoch, row(n))
		if err != nil {
			t.Fatalf("Frame of %d bytes: %v", n, err)
		}
		l = append(l, b...)
		payloads = append(payloads, row(n))
	}
	return l, payloads
}

// scans asks for just these payloads, by both calls.
func scans(t *testing.T, what string, epoch uint32, l []string, want [][]byte) {
	t.Helper()
	count := 0
	var places []int
	for _, p := range want {
		places = append(places, count)
		count += plainCount(len(p))
	}
	got, used := Scan(epoch, l)
	if used != count || !slices.EqualFunc(got, want, bytes.Equal) {
		t.Fatalf("%s: Scan: %d payloads, %d blocks: want %d, %d", what, len(got), used, len(want), count)
	}
	seq := All(epoch, l)
	for range 2 {
		i := 0
		for at, p := range seq {
			if i >= len(want) || at != places[i] || !bytes.Equal(p, want[i]) {
				t.Fatalf("%s: All: payload %d of %d bytes at %d: want %d payloads at %v", what, i, len(p), at, len(want), places)
			}
			i++
		}
		if i != len(want) {
			t.Fatalf("%s: All: %d payloads: want %d", what, i, len(want))
		}
	}
}

// asPlain holds both calls against the plain reading, and what they tell, framed again, against the blocks.
func asPlain(t *testing.T, epoch uint32, l []string) {
	t.Helper()
	var want [][]byte
	for _, f := range plainScan(epoch, l) {
		want = append(want, []byte(f.payload))
	}
	scans(t, "as worded", epoch, l, want)
	got, used := Scan(epoch, l)
	var again []string
	for _, p := range got {
		b, err := Frame(epoch, p)
		tells(t, "framed again", err, api.OK)
		again = append(again, b...)
	}
	if !slices.Equal(again, l[:used]) {
		t.Fatalf("framed again: %q: want %q", again, l[:used])
	}
}

// turned is a copy of l in which one byte of a block is another.
func turned(l []string, block, at int, mask byte) []string {
	b := []byte(l[block])
	b[at] ^= mask
	return with(l, block, string(b))
}

// with is a copy of l in which one block is another.
func with(l []string, block int, b string) []string {
	l = slices.Clone(l)
	l[block] = b
	return l
}

// P12.1
func TestFrameExamples(t *testing.T) {
	for _, x := range []struct {
		epoch uint32
		p     string
		want  []string
	}{
		{1, "", []string{"h\x01\x00\x00\x00\x00\x00\x59\x0e\x69\xee"}},
		{0x01020304, "ab", []string{"h\x04\x03\x02\x01\x02\x00\xd7\x39\xeb\xb1ab"}},
		{math.MaxUint32, strings.Repeat("a", 512), []string{"h\xff\xff\xff\xff\x00\x02\x55\xb0\x29\xde" + strings.Repeat("a", 245), "c" + strings.Repeat("a", 255), "c" + strings.Repeat("a", 12)}},
	} {
		l, err := Frame(x.epoch, []byte(x.p))
		tells(t, "Frame", err, api.OK)
		if !slices.Equal(l, x.want) {
			t.Errorf("Frame(%d, %q): %q: want %q", x.epoch, x.p, l, x.want)
		}
	}
	for n, want := range map[int]int{0: 1, 1: 1, 244: 1, 245: 1, 246: 2, 499: 2, 500: 2, 501: 3, 512: 3} {
		if l, err := Frame(1, row(n)); err != nil || len(l) != want {
			t.Errorf("Frame of %d bytes: %d blocks, %v: want %d", n, len(l), err, want)
		}
	}
	l, err := Frame(1, row(513))
	tells(t, "513 bytes", err, api.ErrLong)
	if len(l) != 0 {
		t.Errorf("513 bytes: %d blocks", len(l))
	}
}

// P12.1: every length, in every epoch of some.
func TestFrameAsWorded(t *testing.T) {
	for n := range api.MaxRecord + 1 {
		for _, p := range rows(n) {
			for _, epoch := range epochs() {
				l, err := Frame(epoch, p)
				if err != nil || !slices.Equal(l, plainBlocks(epoch, p)) {
					t.Fatalf("Frame of %d bytes, epoch %d: %q, %v", n, epoch, l, err)
				}
			}
		}
	}
	for _, epoch := range epochs() {
		if l, err := Frame(epoch, nil); err != nil || !slices.Equal(l, plainBlocks(epoch, nil)) {
			t.Errorf("Frame of nil, epoch %d: %q, %v", epoch, l, err)
		}
	}
}

// P12.1: also lengths of which two bytes would tell less.
func TestFrameTooLong(t *testing.T) {
	for _, n := range []int{513, 514, 755, 756, 1000, 65535, 65536, 65537, 65536 + 512, 1 << 20} {
		for _, epoch := range epochs() {
			l, err := Frame(epoch, make([]byte, n))
			tells(t, "too long", err, api.ErrLong)
			if len(l) != 0 {
				t.Errorf("%d bytes: %d blocks beside an error", n, len(l))
			}
		}
	}
}

// P12.1, P12.5: the limits are those of the document.
func TestLimits(t *testing.T) {
	if api.MaxRecord != 512 || api.BlockBytes != 256 {
		t.Errorf("limits: %d, %d", api.MaxRecord, api.BlockBytes)
	}
}

// P12.2
func TestScanExamples(t *testing.T) {
	one, _ := framed(t, 1, 0)
	for _, n := range []int{0, 245, 246, 500, 501, 512} {
		l, _ := framed(t, 1, n)
		scans(t, "the epoch 2", 2, l, nil)
	}
	scans(t, "none", 2, nil, nil)
	scans(t, "none", 2, []string{}, nil)
	scans(t, "an empty block", 2, []string{""}, nil)
	scans(t, "an empty block ahead", 1, append([]string{""}, one...), nil)
	two, payloads := framed(t, 7, 20, 30)
	for k := range two[1] {
		for mask := 1; mask < 256; mask++ {
			scans(t, "a byte turned in the second one", 7, turned(two, 1, k, byte(mask)), payloads[:1])
		}
	}
}

// P12.2: what was framed, by itself, in its own epoch and in others.
func TestScanOfOne(t *testing.T) {
	for _, n := range lengths() {
		for _, p := range rows(n) {
			for _, epoch := range epochs() {
				l, err := Frame(epoch, p)
				if err != nil {
					t.Fatal(err)
				}
				scans(t, "one", epoch, l, [][]byte{p})
				for _, other := range epochs() {
					if other != epoch {
						scans(t, "another epoch", other, l, nil)
					}
				}
				for bit := range 32 {
					scans(t, "a bit of the epoch", epoch^1<<bit, l, nil)
				}
			}
		}
	}
}

// P12.2: blocks that begin no record, as the first ones.
func TestScanOfNone(t *testing.T) {
	whole, _ := framed(t, 7, 3, 300)
	for _, b := range []string{"", "h", "c", "x", "h\x07", "h\x07\x00\x00\x00", "h\x07\x00\x00\x00\x00\x00", "hhhhhhhhhhh", "ccccccccccc", strings.Repeat("\x00", 11), strings.Repeat("\xff", 256), strings.Repeat("h", 256), "H" + whole[0][1:], whole[0][1:], " " + whole[0]} {
		for _, l := range [][]string{{b}, {b, b, b}, append([]string{b}, whole...)} {
			scans(t, "no record", 7, l, nil)
			scans(t, "no record", 0, l, nil)
		}
	}
}

// P12.2: a first block that is cut off anywhere, or has a byte too many; the others are there.
func TestFirstBlockCutOff(t *testing.T) {
	for _, n := range lengths() {
		for _, ahead := range [][]int{nil, {5}, {300, 0}} {
			l, payloads := framed(t, 7, append(slices.Clone(ahead), n, 9)...)
			at := len(l) - 1 - plainCount(n)
			for k := range len(l[at]) {
				scans(t, "cut off", 7, with(l, at, l[at][:k]), payloads[:len(ahead)])
			}
			for c := range 256 {
				scans(t, "a byte too many", 7, with(l, at, l[at]+string([]byte{byte(c)})), payloads[:len(ahead)])
			}
			scans(t, "twice", 7, with(l, at, l[at]+l[at]), payloads[:len(ahead)])
		}
	}
}

// P12.2: a first block of another epoch, whole; and one whose sum is that of the epoch that is asked.
func TestFirstBlockOfAnotherEpoch(t *testing.T) {
	for _, n := range lengths() {
		l, payloads := framed(t, 7, 4, 300)
		for _, other := range []uint32{0, 6, 8, 7 << 8, 7 << 24, 7 + 1<<31, math.MaxUint32} {
			old, _ := framed(t, other, n)
			scans(t, "another epoch behind", 7, slices.Concat(l, old, l), payloads)
			scans(t, "another epoch ahead", 7, slices.Concat(old, l), nil)
			mine, _ := framed(t, 7, n)
			mine[0] = old[0][:5] + mine[0][5:]
			scans(t, "another epoch, the sum of this one", 7, slices.Concat(l, mine), payloads)
		}
	}
}

// P12.2: a length above MaxRecord, its blocks and its sum as they would be; and lengths that aren't what stands there, with a sum that fits.
func TestLengths(t *testing.T) {
	l, payloads := framed(t, 7, 4, 300)
	for _, n := range []int{513, 514, 755, 756, 1000, 1024, 32768, 65535} {
		scans(t, "above MaxRecord", 7, slices.Concat(l, plainBlocks(7, make([]byte, n)), l), payloads)
	}
	for _, n := range lengths() {
		for _, other := range []int{0, 1, n - 1, n + 1, 245, 246, 255, 256, 500, 501, 512, 513, 65535} {
			if other == n || other < 0 {
				continue
			}
			head := []byte{'h', 7, 0, 0, 0, byte(other), byte(other >> 8)}
			sum := crc32.ChecksumIEEE(slices.Concat(head, row(n)))
			scans(t, "another length", 7, slices.Concat(l, withSum(head, row(n), sum), l), payloads)
			if other < n && other != 245 && other != 500 { // behind these many bytes a block ends, and a record would be whole
				sum = crc32.ChecksumIEEE(slices.Concat(head, row(n)[:other]))
				scans(t, "a lesser length, whose sum fits", 7, slices.Concat(l, withSum(head, row(n), sum), l), payloads)
			}
		}
		swapped := []byte{'h', 7, 0, 0, 0, byte(n >> 8), byte(n)}
		if n>>8 != n&255 {
			scans(t, "the length's highest byte first", 7, withSum(swapped, row(n), crc32.ChecksumIEEE(slices.Concat(swapped, row(n)))), nil)
		}
	}
}

// P12.2: a sum that is another: each bit of it, and sums of other bytes.
func TestSums(t *testing.T) {
	l, payloads := framed(t, 7, 4, 300)
	for _, n := range lengths() {
		p := row(n)
		head := []byte{'h', 7, 0, 0, 0, byte(n), byte(n >> 8)}
		sum := crc32.ChecksumIEEE(slices.Concat(head, p))
		scans(t, "the sum itself", 7, slices.Concat(l, withSum(head, p, sum)), append(slices.Clone(payloads), p))
		others := []uint32{^sum, 0, 1, math.MaxUint32, crc32.ChecksumIEEE(p), crc32.ChecksumIEEE(head), crc32.ChecksumIEEE(slices.Concat(head[1:], p)),
			crc32.ChecksumIEEE(slices.Concat(p, head)), crc32.ChecksumIEEE(slices.Concat(head[:5], p)), sum<<16 | sum>>16, sum<<24 | sum>>8}
		for bit := range 32 {
			others = append(others, sum^1<<bit)
		}
		for _, other := range others {
			if other != sum {
				scans(t, "another sum", 7, slices.Concat(l, withSum(head, p, other), l), payloads)
			}
		}
	}
}

// P12.2: a block that follows is missing, too short, too long, or doesn't begin with a c.
func TestFollowingBlocks(t *testing.T) {
	for _, n := range []int{246, 247, 300, 499, 500, 501, 511, 512} {
		for _, ahead := range [][]int{nil, {5}, {300, 512}} {
			l, payloads := framed(t, 7, append(slices.Clone(ahead), n)...)
			payloads = payloads[:len(ahead)]
			first := len(l) - plainCount(n)
			behind, _ := framed(t, 7, 8, 400)
			for i := first + 1; i < len(l); i++ {
				scans(t, "missing, and those behind it", 7, l[:i], payloads)
				scans(t, "missing, records behind it", 7, slices.Concat(l[:i], behind), payloads)
				scans(t, "missing, the next in its place", 7, slices.Concat(l[:i], l[i+1:], behind), payloads)
				scans(t, "empty", 7, slices.Concat(with(l, i, ""), behind), payloads)
				scans(t, "one too many ahead", 7, slices.Insert(slices.Clone(l), i, "c"), payloads)
				for k := range len(l[i]) {
					scans(t, "too short", 7, slices.Concat(with(l, i, l[i][:k]), behind), payloads)
				}
				for c := range 256 {
					scans(t, "too long", 7, slices.Concat(with(l, i, l[i]+string([]byte{byte(c)})), behind), payloads)
					if c != 'c' {
						scans(t, "not a c", 7, slices.Concat(with(l, i, string([]byte{byte(c)})+l[i][1:]), behind), payloads)
					}
				}
				scans(t, "without its c", 7, with(l, i, l[i][1:]), payloads)
				scans(t, "two of them", 7, with(l, i, "c"+l[i]), payloads)
				scans(t, "a first block", 7, with(l, i, l[0]), payloads)
			}
		}
	}
}

// P12.2: the same payload with a sum that fits, cut into blocks at other places, is no record.
func TestCutAtOtherPlaces(t *testing.T) {
	for _, n := range []int{10, 245, 246, 300, 500, 501, 512} {
		p := string(row(n))
		whole := plainBlocks(7, []byte(p))
		head := whole[0][:11]
		for a := 0; a <= n; a++ {
			if l := []string{head + p[:a], "c" + p[a:]}; !begin(l, whole) {
				scans(t, "in two", 7, l, nil)
			}
			if n > 255 {
				for _, b := range []int{a, a + 1, a + 254, a + 255, a + 256, n - 1, n} {
					b = max(a, min(b, n))
					if l := []string{head + p[:a], "c" + p[a:b], "c" + p[b:]}; !begin(l, whole) {
						scans(t, "in three", 7, l, nil)
					}
				}
			}
		}
		if n > 245 {
			scans(t, "in one", 7, []string{head + p}, nil)
		}
	}
	for _, n := range []int{0, 245} {
		l, payloads := framed(t, 7, n)
		scans(t, "a block without anything behind", 7, slices.Concat(l, []string{"c"}, l), payloads)
	}
}

// begin tells whether blocks begin with others.
func begin(l, others []string) bool {
	return len(l) >= len(others) && slices.Equal(l[:len(others)], others)
}

// P12.2: a byte that is turned, anywhere in any block of a record: that one and those behind it aren't told.
func TestByteTurned(t *testing.T) {
	l, payloads := framed(t, 7, 3, 300, 512, 0, 245, 500)
	record := 0
	for i := range l {
		if i > 0 && l[i][0] == 'h' {
			record++
		}
		for k := range len(l[i]) {
			for bit := range 8 {
				scans(t, "a bit turned", 7, turned(l, i, k, 1<<bit), payloads[:record])
			}
			scans(t, "a byte turned", 7, turned(l, i, k, 0xff), payloads[:record])
		}
	}
	if record != len(payloads)-1 {
		t.Fatalf("%d records: want %d", record+1, len(payloads))
	}
}

// behindWhole are blocks behind records of the epoch 7, of which the first one isn't a first block of it.
func behindWhole(t *testing.T) [][]string {
	whole, _ := framed(t, 7, 1, 512)
	old, _ := framed(t, 6, 4, 300)
	all := [][]string{{}, {""}, {"", ""}, {"c"}, {"x"}, {"h"}, {"h\x07\x00\x00"}, {"h\x07\x00\x00\x01\x00\x00"}, {"c" + string(row(255))}, {whole[0][1:]}, {"c\x07\x00\x00\x00" + whole[0][5:]}, old, old[1:], whole[2:], {strings.Repeat("\xff", 256)}}
	for _, l := range all[1:] {
		all = append(all, slices.Concat(l, whole), slices.Concat(l, old))
	}
	return all
}

// P12.3: records of one, two and three blocks behind one another, in each order, and behind them blocks of each sort.
func TestWhole(t *testing.T) {
	tails := behindWhole(t)
	sizes := []int{0, 245, 246, 500, 501, 512}
	for _, a := range sizes {
		for _, b := range sizes {
			for _, c := range sizes {
				for _, lengths := range [][]int{{}, {a}, {a, b}, {a, b, c}} {
					l, payloads := framed(t, 7, lengths...)
					for _, tail := range tails {
						scans(t, "whole", 7, slices.Concat(l, tail), payloads)
					}
				}
			}
		}
	}
}

// P12.3: many records, of many lengths.
func TestManyRecords(t *testing.T) {
	r := rand.New(rand.NewSource(123))
	for _, count := range []int{10, 100, 1000} {
		var l []string
		var payloads [][]byte
		for range count {
			p := row(r.Intn(api.MaxRecord + 1))
			b, err := Frame(math.MaxUint32, p)
			if err != nil {
				t.Fatal(err)
			}
			l, payloads = append(l, b...), append(payloads, p)
		}
		scans(t, "many", math.MaxUint32, l, payloads)
		scans(t, "many, and an empty block", math.MaxUint32, append(l, ""), payloads)
		scans(t, "many of another epoch", 0, l, nil)
	}
}

// P12.2: behind whole records, first blocks of that epoch that are torn each in one of the ways.
func TestTornBehindWhole(t *testing.T) {
	torn := func(n int) [][]string {
		l, _ := framed(t, 7, n)
		all := [][]string{with(l, 0, l[0][:len(l[0])-1]), with(l, 0, l[0]+"x"), turned(l, 0, 8, 4), {l[0][:5]}, {l[0][:7]}, {l[0][:11] + "more than there is"}, plainBlocks(7, make([]byte, 513))}
		for i := 1; i < len(l); i++ {
			all = append(all, l[:i], with(l, i, ""), with(l, i, l[i]+"x"), with(l, i, l[i][:len(l[i])-1]), with(l, i, "x"+l[i][1:]), turned(l, i, 1, 1))
		}
		return all
	}
	for _, lengths := range [][]int{{}, {3}, {300}, {512}, {3, 300, 512}, {512, 300, 3}, {300, 300}} {
		l, payloads := framed(t, 7, lengths...)
		for _, n := range []int{0, 3, 244, 245, 246, 300, 499, 500, 501, 512} {
			for _, tail := range torn(n) {
				scans(t, "torn behind whole", 7, slices.Concat(l, tail), payloads)
				scans(t, "torn between", 7, slices.Concat(l, tail, l), payloads)
			}
		}
	}
}

// P12.4: of a record whose first block isn't there yet nothing is told, whatever stands in the others' places.
func TestTorn(t *testing.T) {
	inPlace := []string{"", "c", "h", "x", "h\x06\x00\x00\x00", "h\x07\x00\x00", "C", strings.Repeat("\x00", 256)}
	old, _ := framed(t, 6, 2, 300, 512)
	inPlace = append(inPlace, old...)
	whole, _ := framed(t, 7, 9, 400)
	for _, n := range []int{0, 245, 246, 500, 501, 512} {
		more, _ := framed(t, 7, n)
		others := [][]string{more[1:], make([]string, len(more)-1), whole, old, whole[1:], slices.Concat(more[1:], whole), slices.Concat(more, more)}
		for _, lengths := range [][]int{{}, {3}, {300}, {512}, {512, 3, 300}} {
			l, payloads := framed(t, 7, lengths...)
			for _, first := range inPlace {
				for _, rest := range others {
					scans(t, "torn", 7, slices.Concat(l, []string{first}, rest), payloads)
				}
			}
		}
	}
}

// P12.4: records that are written from the last block to the first one, over what was there of another epoch: each is there whole, or not at all.
func TestWrittenBackwards(t *testing.T) {
	lengths := []int{512, 3, 246, 0, 501, 500}
	for _, was := range [][]int{nil, {512, 512, 512, 512}, {0, 1, 2, 3, 4, 5, 6, 7, 8, 9, 10, 11}, {300, 3, 300, 3, 512, 300}} {
		disk := make([]string, 12)
		old, _ := framed(t, 6, was...)
		copy(disk, old)
		var payloads [][]byte
		at := 0
		for _, n := range lengths {
			l, p := framed(t, 7, n)
			for i := len(l) - 1; i >= 0; i-- {
				scans(t, "not yet there", 7, disk, payloads)
				disk[at+i] = l[i]
			}
			payloads = append(payloads, p...)
			at += len(l)
			scans(t, "there", 7, disk, payloads)
		}
	}
}

// P12.5
func TestBlocks(t *testing.T) {
	for n := range api.MaxRecord + 1 {
		l, err := Frame(7, row(n))
		if err != nil || len(l) != plainCount(n) {
			t.Fatalf("%d bytes: %d blocks, %v: want %d", n, len(l), err, plainCount(n))
		}
		for i, b := range l {
			if len(b) > api.BlockBytes || i < len(l)-1 && len(b) != api.BlockBytes {
				t.Errorf("%d bytes: block %d has %d bytes", n, i, len(b))
			}
		}
		if p, used := Scan(7, l); used != len(l) || len(p) != 1 || !bytes.Equal(p[0], row(n)) {
			t.Errorf("%d bytes: Scan: %d payloads, %d blocks", n, len(p), used)
		}
	}
}

// P12.2, P12.5: blocks of records of two epochs that were cut, doubled, left out, moved and turned, against the plain reading.
func TestScanAsWorded(t *testing.T) {
	r := rand.New(rand.NewSource(125))
	told := 0
	for range 20000 {
		var l []string
		for range r.Intn(6) {
			p := row([]int{0, 1, 3, 244, 245, 246, 300, 499, 500, 501, 512}[r.Intn(11)])
			epoch := uint32(7)
			if r.Intn(8) == 0 {
				epoch = 6
			}
			l = append(l, plainBlocks(epoch, p)...)
		}
		for range r.Intn(4) {
			if len(l) > 0 {
				l = spoilt(r, l)
			}
		}
		asPlain(t, 7, l)
		told += len(plainScan(7, l))
	}
	if told < 10000 {
		t.Errorf("only %d records were told", told)
	}
}

// spoilt is a copy of l with one thing wrong.
func spoilt(r *rand.Rand, l []string) []string {
	i, k := r.Intn(len(l)), r.Intn(len(l))
	switch r.Intn(7) {
	case 0:
		return slices.Delete(slices.Clone(l), i, i+1)
	case 1:
		return slices.Insert(slices.Clone(l), i, l[k])
	case 2:
		return with(l, i, l[k])
	case 3:
		return with(l, i, l[i][:r.Intn(len(l[i])+1)])
	case 4:
		return with(l, i, l[i]+"x")
	case 5:
		return l[i:]
	}
	if l[i] == "" {
		return l
	}
	return turned(l, i, r.Intn(min(len(l[i]), 1+r.Intn(256))), 1<<r.Intn(8))
}

// P12.2: All may be left ahead of its end, at each record, and gone over again; also one within the other.
func TestAllIsLeft(t *testing.T) {
	l, payloads := framed(t, 7, 3, 300, 512, 0)
	places := []int{0, 1, 3, 6}
	seq := All(7, l)
	for stop := range payloads {
		i := 0
		for at, p := range seq {
			if at != places[i] || !bytes.Equal(p, payloads[i]) {
				t.Fatalf("payload %d: %d bytes at %d", i, len(p), at)
			}
			if i == stop {
				break
			}
			i++
		}
		if i != stop {
			t.Errorf("left at %d: want %d", i, stop)
		}
		calls := 0
		seq(func(int, []byte) bool { calls++; return calls <= stop })
		if calls != stop+1 {
			t.Errorf("left behind %d calls: want %d", calls, stop+1)
		}
	}
	pairs := 0
	for a, p := range seq {
		for b, q := range seq {
			if (a == b) != bytes.Equal(p, q) {
				t.Errorf("%d, %d: %d bytes, %d bytes", a, b, len(p), len(q))
			}
			pairs++
		}
	}
	if pairs != 16 {
		t.Errorf("one within the other: %d", pairs)
	}
	for range All(7, nil) {
		t.Error("All of no blocks")
	}
}

// P12.2, R4: payloads that were handed out are their taker's alone, with their spare room.
func TestPayloadsHandedOut(t *testing.T) {
	lengths := []int{3, 300, 512, 1, 245, 246}
	l, payloads := framed(t, 7, lengths...)
	spoil := func(p []byte) {
		p = p[:cap(p)]
		for i := range p {
			p[i] ^= 0xee
		}
	}
	seq := All(7, l)
	kept, _ := Scan(7, l)
	other, _ := Scan(7, l)
	for range 2 {
		i := 0
		for _, p := range seq {
			if !bytes.Equal(p, payloads[i]) {
				t.Errorf("All: payload %d was turned", i)
			}
			spoil(p)
			i++
		}
		if i != len(payloads) {
			t.Errorf("All: %d payloads", i)
		}
	}
	for i := range other {
		spoil(other[i])
		for k := i + 1; k < len(other); k++ {
			if !bytes.Equal(other[k], payloads[k]) {
				t.Errorf("payload %d was turned with payload %d", k, i)
			}
		}
	}
	if !slices.EqualFunc(kept, payloads, bytes.Equal) {
		t.Error("what an earlier Scan told was turned")
	}
	other[0], other[1] = nil, nil
	clear(other[:cap(other)])
	scans(t, "handed out and written into", 7, l, payloads)
}

// P12.2: all bytes that are handed out lie in memory of their own.
func TestPayloadsAreNew(t *testing.T) {
	l, _ := framed(t, 7, 3, 300, 512, 245)
	seen := map[*byte]bool{}
	see := func(p []byte) {
		for i := range p[:cap(p)] {
			at := &p[:cap(p)][i]
			if seen[at] {
				t.Fatal("the same memory twice")
			}
			seen[at] = true
		}
	}
	var kept [][]byte // so that no memory is used again
	seq := All(7, l)
	for range 3 {
		for _, p := range seq {
			see(p)
			kept = append(kept, p)
		}
		told, _ := Scan(7, l)
		for _, p := range told {
			see(p)
			kept = append(kept, p)
		}
	}
	if len(kept) != 24 {
		t.Errorf("%d payloads", len(kept))
	}
}

// R3, R4: a payload that is handed in is read up to its length, not written, and not kept.
func TestPayloadHandedIn(t *testing.T) {
	for _, n := range lengths() {
		room := append(row(n), "what lies behind"...)
		was := bytes.Clone(room)
		l, err := Frame(7, room[:n])
		tells(t, "handed in", err, api.OK)
		if !bytes.Equal(room, was) {
			t.Errorf("%d bytes: the payload was written", n)
		}
		for i := range room {
			room[i] = 'z'
		}
		if !slices.Equal(l, plainBlocks(7, row(n))) {
			t.Errorf("%d bytes: the blocks turned with the payload", n)
		}
		scans(t, "handed in and written into", 7, l, [][]byte{row(n)})
	}
}

// R3, R4: blocks that are handed in are read up to the list's length, not written, and not kept.
func TestBlocksHandedIn(t *testing.T) {
	whole, payloads := framed(t, 7, 3, 300, 512, 0)
	for end, told := range []int{0, 1, 1, 2, 2, 2, 3, 4} {
		l := slices.Clone(whole)
		seq := All(7, l[:end])
		scans(t, "a part of the list", 7, l[:end], payloads[:told])
		if !slices.Equal(l, whole) {
			t.Error("the list was written")
		}
		got, used := Scan(7, l[:end])
		for i := range l {
			l[i] = whole[0]
		}
		if len(got) != told || used > end {
			t.Errorf("%d payloads, %d blocks of %d", len(got), used, end)
		}
		i := 0
		for _, p := range seq {
			if i >= told || !bytes.Equal(p, payloads[i]) || !bytes.Equal(p, got[i]) {
				t.Fatalf("All: payload %d was turned with the list", i)
			}
			i++
		}
		if i != told {
			t.Errorf("All: %d payloads: want those that there were when it was got, %d", i, told)
		}
	}
}

// R5: the list that is written into while it is gone over turns nothing either.
func TestListWrittenBetween(t *testing.T) {
	l, payloads := framed(t, 7, 3, 300, 512)
	seq := All(7, l)
	for range 2 {
		i := 0
		for _, p := range seq {
			clear(l)
			if !bytes.Equal(p, payloads[i]) {
				t.Errorf("payload %d was turned", i)
			}
			i++
		}
		if i != len(payloads) {
			t.Errorf("%d payloads: want %d", i, len(payloads))
		}
	}
}

// R4: blocks that were handed out share nothing, neither with one another nor with other answers.
func TestBlocksAreNew(t *testing.T) {
	seen := map[*byte]bool{}
	var kept [][]string
	for range 20 {
		for _, n := range []int{0, 3, 246, 512} {
			l, err := Frame(7, row(n))
			if err != nil {
				t.Fatal(err)
			}
			kept = append(kept, slices.Clone(l))
			for _, b := range l {
				if seen[unsafe.StringData(b)] {
					t.Fatal("a block was handed out twice")
				}
				seen[unsafe.StringData(b)] = true
			}
			clear(l[:cap(l)])
		}
	}
	for i, l := range kept {
		if want := plainBlocks(7, row([]int{0, 3, 246, 512}[i%4])); !slices.Equal(l, want) {
			t.Errorf("blocks %d were turned", i)
		}
	}
}

// R5: the same again, whatever was asked between.
func TestAgain(t *testing.T) {
	l, payloads := framed(t, 7, 300, 3)
	for range 3 {
		scans(t, "again", 7, l, payloads)
		scans(t, "between", 8, l, nil)
		scans(t, "between", 7, l[1:], nil)
		if b, err := Frame(7, row(300)); err != nil || !slices.Equal(b, l[:2]) {
			t.Errorf("Frame again: %q, %v", b, err)
		}
		_, err := Frame(7, make([]byte, 513))
		tells(t, "between", err, api.ErrLong)
	}
}

// R1: all blocks are read, as worded.
func FuzzScan(f *testing.F) {
	for _, n := range []int{0, 3, 245, 246, 512} {
		l := plainBlocks(7, row(n))
		f.Add(uint32(7), strings.Join(l, "|"), "|")
		f.Add(uint32(6), strings.Join(append(l, l...), "\xff\xfe"), "\xff\xfe")
	}
	f.Add(uint32(0), "", "")
	f.Fuzz(func(t *testing.T, epoch uint32, text, between string) {
		asPlain(t, epoch, strings.Split(text, between))
	})
}
