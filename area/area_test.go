package area

import (
	"bytes"
	"encoding/binary"
	"errors"
	"hash/crc32"
	"math"
	"math/rand"
	"slices"
	"strings"
	"testing"

	"lineage/api"
	"lineage/disk"
)

// tells checks an error's number, against all numbers; no error of this layer has a place.
func tells(t *testing.T, what string, err error, no api.Errno) {
	t.Helper()
	for n := api.OK; n <= api.ErrState+1; n++ {
		want := n == no && no != api.OK
		if errors.Is(err, n) != want {
			t.Fatalf("%s: errors.Is(%v, %d): want just %d", what, err, n, no)
		}
	}
	if no == api.OK && err != nil {
		t.Fatalf("%s: %v: want no error", what, err)
	}
	var f api.Fault
	if errors.As(err, &f) {
		t.Fatalf("%s: a place %+v: want none", what, f)
	}
}

// place is where images lie, in the tests' own reckoning.
type place struct{ at, n int }

// block is the i-th block of the area of an epoch.
func (p place) block(epoch uint32, i int) int {
	if epoch%2 == 1 {
		i += p.n
	}
	return p.at + 1 + i
}

// most is how many bytes an image may have.
func (p place) most() int { return p.n * 256 }

// numbers are four bytes each, the lowest one first.
func numbers(l ...uint32) string {
	var b []byte
	for _, v := range l {
		b = binary.LittleEndian.AppendUint32(b, v)
	}
	return string(b)
}

// sealed is a header of any three numbers, with the sum that fits them.
func sealed(epoch, length, sum uint32) string {
	s := numbers(epoch, length, sum)
	return s + numbers(crc32.ChecksumIEEE([]byte(s)))
}

// headerOf is the header of an image.
func headerOf(epoch uint32, data []byte) string {
	return sealed(epoch, uint32(len(data)), crc32.ChecksumIEEE(data))
}

// written are the raw writes of a Save, in their order.
func written(p place, epoch uint32, data []byte) []api.Raw {
	var l []api.Raw
	for i, piece := range slices.Collect(slices.Chunk(data, 256)) {
		l = append(l, api.Raw{Block: p.block(epoch, i), Text: string(piece)})
	}
	return append(l, api.Raw{Block: p.at, Text: headerOf(epoch, data)})
}

// plain is what Load tells of a place that may be, read off the disk's blocks as the chapter says it.
func plain(t *testing.T, d *disk.Disk, p place) (uint32, []byte, api.Errno) {
	t.Helper()
	head := text(t, d, p.at)
	if head == "" {
		return 0, nil, api.ErrNone
	}
	if len(head) != 16 || numbers(crc32.ChecksumIEEE([]byte(head[:12]))) != head[12:] {
		return 0, nil, api.ErrSum
	}
	epoch := binary.LittleEndian.Uint32([]byte(head[:4]))
	left := int(binary.LittleEndian.Uint32([]byte(head[4:8])))
	if left > p.most() {
		return 0, nil, api.ErrSum
	}
	var data []byte
	for i := 0; left > 0; i++ {
		s := text(t, d, p.block(epoch, i))
		if len(s) < min(left, 256) {
			return 0, nil, api.ErrSum
		}
		data = append(data, s[:min(left, 256)]...)
		left -= min(left, 256)
	}
	if numbers(crc32.ChecksumIEEE(data)) != head[8:12] {
		return 0, nil, api.ErrSum
	}
	return epoch, data, api.OK
}

func newDisk(t *testing.T, blocks int) *disk.Disk {
	t.Helper()
	d, err := disk.New(blocks)
	if err != nil {
		t.Fatal(err)
	}
	return d
}

func text(t *testing.T, d *disk.Disk, i int) string {
	t.Helper()
	s, err := d.Read(i)
	if err != nil {
		t.Fatal(err)
	}
	return s
}

func write(t *testing.T, d *disk.Disk, i int, s string) {
	t.Helper()
	if err := d.Write(i, s); err != nil {
		t.Fatal(err)
	}
}

// row is an image of n bytes; unlike seeds make unlike ones.
func row(n, seed int) []byte {
	b := make([]byte, n)
	rand.New(rand.NewSource(int64(n)*1000 + int64(seed))).Read(b)
	return b
}

// turned is a text with one bit turned.
func turned(s string, at, bit int) string {
	b := []byte(s)
	b[at] ^= 1 << bit
	return string(b)
}

func epochs() []uint32 {
	return []uint32{0, 1, 2, 3, 255, 256, 257, 1<<16 - 1, 1 << 16, 1 << 24, 1<<31 - 1, 1 << 31, math.MaxUint32 - 1, math.MaxUint32}
}

// lengths are the images' lengths that are asked of an area of n blocks.
func lengths(n int) []int {
	var l []int
	for _, k := range []int{0, 1, 2, 255, 256, 257, 300, 511, 512, 513, n*256 - 256, n*256 - 255, n*256 - 1, n * 256} {
		if k >= 0 && k <= n*256 {
			l = append(l, k)
		}
	}
	slices.Sort(l)
	return slices.Compact(l)
}

// loads asks for an image, and that nothing was written.
func loads(t *testing.T, what string, d *disk.Disk, p place, epoch uint32, data []byte) {
	t.Helper()
	was := d.Writes()
	e, b, err := Load(d, p.at, p.n)
	tells(t, what+": Load", err, api.OK)
	if e != epoch || !bytes.Equal(b, data) {
		t.Fatalf("%s: Load: the epoch %d and %d bytes, want %d and %d (or the bytes are others)", what, e, len(b), epoch, len(data))
	}
	if d.Writes() != was {
		t.Fatalf("%s: Load has written", what)
	}
}

// refuses asks for an error of Load, for nothing beside it, and that nothing was written.
func refuses(t *testing.T, what string, d *disk.Disk, p place, no api.Errno) {
	t.Helper()
	was := d.Writes()
	e, b, err := Load(d, p.at, p.n)
	tells(t, what+": Load", err, no)
	if e != 0 || len(b) != 0 {
		t.Fatalf("%s: Load: the epoch %d and %d bytes beside an error", what, e, len(b))
	}
	if d.Writes() != was {
		t.Fatalf("%s: Load has written", what)
	}
}

// asPlain asks Load for what the plain reading tells.
func asPlain(t *testing.T, what string, d *disk.Disk, p place) api.Errno {
	t.Helper()
	epoch, data, no := plain(t, d, p)
	if no != api.OK {
		refuses(t, what, d, p, no)
	} else {
		loads(t, what, d, p, epoch, data)
	}
	return no
}

// saves asks for one Save, of a place that may be, on a disk on which left more raw writes succeed (below 0: all), and for just the raw writes that it makes.
func saves(t *testing.T, what string, d *disk.Disk, p place, epoch uint32, data []byte, left int) {
	t.Helper()
	want, no := written(p, epoch, data), api.OK
	if left >= 0 && left < len(want) {
		want, no = want[:left], api.ErrPower
	}
	was := d.Trail()
	tells(t, what+": Save", Save(d, p.at, p.n, epoch, data), no)
	if got := d.Trail()[len(was):]; !slices.Equal(got, want) {
		t.Fatalf("%s: Save: raw writes of the blocks %v, want %v (or their texts are others)", what, blocks(got), blocks(want))
	}
	if !slices.Equal(d.Trail()[:len(was)], was) {
		t.Fatalf("%s: the raw writes ahead are others", what)
	}
}

// keepsAll asks for an error of Save, and that nothing was written.
func keepsAll(t *testing.T, what string, d *disk.Disk, p place, epoch uint32, data []byte, no api.Errno) {
	t.Helper()
	was := d.Writes()
	tells(t, what+": Save", Save(d, p.at, p.n, epoch, data), no)
	if d.Writes() != was {
		t.Fatalf("%s: Save has written", what)
	}
}

// blocks are the places of raw writes.
func blocks(l []api.Raw) []int {
	var at []int
	for _, r := range l {
		at = append(at, r.Block)
	}
	return at
}

// P14.1, P14.2: the chapter's examples, one behind the other.
func TestExamples(t *testing.T) {
	d := newDisk(t, 7)
	p := place{1, 2}
	refuses(t, "a new disk", d, p, api.ErrNone)
	data := row(300, 0)
	tells(t, "Save", Save(d, 1, 2, 1, data), api.OK)
	want := []api.Raw{{Block: 4, Text: string(data[:256])}, {Block: 5, Text: string(data[256:])}, {Block: 1, Text: headerOf(1, data)}}
	if got := d.Trail(); !slices.Equal(got, want) {
		t.Errorf("raw writes of the blocks %v (or their texts are others)", blocks(got))
	}
	loads(t, "300 bytes", d, p, 1, data)
	tells(t, "Save", Save(d, 1, 2, 2, nil), api.OK)
	if got := d.Trail()[3:]; len(got) != 1 || got[0].Block != 1 {
		t.Errorf("no bytes: raw writes of the blocks %v", blocks(got))
	}
	loads(t, "no bytes", d, p, 2, nil)
	keepsAll(t, "513 bytes", d, p, 3, row(513, 0), api.ErrLong)
	keepsAll(t, "n 3", d, place{1, 3}, 3, data, api.ErrArg)
	keepsAll(t, "at -1", d, place{-1, 2}, 3, data, api.ErrArg)
	keepsAll(t, "n 0", d, place{1, 0}, 3, data, api.ErrArg)
	tells(t, "Save", Save(d, 1, 2, 3, data), api.OK)
	for _, i := range []int{1, 4, 5} {
		was := text(t, d, i)
		write(t, d, i, turned(was, 3, 5))
		refuses(t, "a byte turned", d, p, api.ErrSum)
		write(t, d, i, was)
	}
	loads(t, "turned back", d, p, 3, data)
}

// P14.1: a header's bytes, written out.
func TestHeaderWrittenOut(t *testing.T) {
	for _, x := range []struct {
		epoch uint32
		data  string
		want  string
	}{
		// The sum of no bytes is 0; that of `123456789` is CBF43926, of `a` E8B7BE43 (chapter 6).
		{0x01020304, "", "\x04\x03\x02\x01\x00\x00\x00\x00\x00\x00\x00\x00"},
		{1, "123456789", "\x01\x00\x00\x00\x09\x00\x00\x00\x26\x39\xf4\xcb"},
		{math.MaxUint32, "a", "\xff\xff\xff\xff\x01\x00\x00\x00\x43\xbe\xb7\xe8"},
	} {
		d := newDisk(t, 3)
		tells(t, "Save", Save(d, 0, 1, x.epoch, []byte(x.data)), api.OK)
		got := text(t, d, 0)
		if len(got) != 16 || got[:12] != x.want || got[12:] != numbers(crc32.ChecksumIEEE([]byte(x.want))) {
			t.Errorf("the epoch %d, %q: the header %q", x.epoch, x.data, got)
		}
	}
}

// P14.1, P14.2: which places may be; Save and Load tell the same; what is refused writes nothing.
func TestPlaces(t *testing.T) {
	for _, count := range []int{1, 2, 3, 4, 5, 7, 8, 65, api.MaxBlocks - 1, api.MaxBlocks} {
		d := newDisk(t, count)
		ats := []int{math.MinInt, math.MinInt + 1, -count - 1, -count, -2, -1, 0, 1, 2, count/2 - 1, count / 2, count - 4, count - 3, count - 2, count - 1, count, count + 1, math.MaxInt - 1, math.MaxInt}
		for _, at := range ats {
			greatest := 0
			for at >= 0 && at < count && at+1+2*(greatest+1) <= count {
				greatest++
			}
			ns := []int{math.MinInt, math.MinInt + 1, math.MinInt / 2, -2, -1, 0, 1, 2, greatest - 1, greatest, greatest + 1, count, count + 1, 1 << 61, 1<<62 - 1, 1 << 62, 1<<62 + 1, math.MaxInt - 1, math.MaxInt}
			for _, n := range ns {
				p := place{at, n}
				if n < 1 || n > greatest {
					keepsAll(t, "no place", d, p, 5, nil, api.ErrArg)
					keepsAll(t, "no place", d, p, 6, row(300, 0), api.ErrArg)
					refuses(t, "no place", d, p, api.ErrArg)
					continue
				}
				for _, epoch := range []uint32{6, 7} {
					saves(t, "a place", d, p, epoch, row(200, at), -1)
					loads(t, "a place", d, p, epoch, row(200, at))
				}
			}
		}
	}
}

// P14.1, P14.2: of each small disk all places: those that may be are just as many as the chapter's words give.
func TestAllSmallPlaces(t *testing.T) {
	for count := 1; count <= 12; count++ {
		d := newDisk(t, count)
		for at := -3; at <= count+3; at++ {
			for n := -3; n <= count+3; n++ {
				no := api.ErrArg
				if at >= 0 && n >= 1 && at+1+2*n <= count {
					no = api.OK
				}
				tells(t, "Save", Save(d, at, n, uint32(n), nil), no)
				_, _, err := Load(d, at, n)
				tells(t, "Load", err, no)
			}
		}
	}
}

// R1: no disk has no blocks.
func TestNoDisk(t *testing.T) {
	for _, d := range []*disk.Disk{nil, {}} {
		for _, at := range []int{math.MinInt, -3, -1, 0, 1, math.MaxInt} {
			for _, n := range []int{-1, 0, 1, math.MaxInt} {
				tells(t, "Save", Save(d, at, n, 1, []byte("a")), api.ErrArg)
				e, b, err := Load(d, at, n)
				tells(t, "Load", err, api.ErrArg)
				if e != 0 || len(b) != 0 {
					t.Errorf("(%d, %d): more than an error", at, n)
				}
			}
		}
	}
}

// P14.1, P14.3: images of all edges' lengths, of all edges' epochs, over one another: the raw writes and their order, and what Load tells.
func TestSaveAndLoad(t *testing.T) {
	for _, n := range []int{1, 2, 3, 4, 24} {
		for _, at := range []int{0, 1, 5} {
			d := newDisk(t, at+1+2*n)
			p := place{at, n}
			for _, k := range lengths(n) {
				for _, epoch := range epochs() {
					data := row(k, int(epoch%1000))
					saves(t, "saved", d, p, epoch, data, -1)
					loads(t, "saved", d, p, epoch, data)
				}
			}
			for i := range at {
				if text(t, d, i) != "" {
					t.Errorf("block %d, ahead of the place, was written", i)
				}
			}
		}
	}
}

// P14.1, P14.3: every length of an area of two blocks, on a new disk.
func TestEachLength(t *testing.T) {
	p := place{2, 2}
	for k := range p.most() + 1 {
		for _, epoch := range []uint32{0, 1} {
			d := newDisk(t, 9)
			saves(t, "each length", d, p, epoch, row(k, 1), -1)
			loads(t, "each length", d, p, epoch, row(k, 1))
			for i := range d.Blocks() {
				if s := text(t, d, i); !slices.ContainsFunc(d.Trail(), func(r api.Raw) bool { return r.Block == i }) && s != "" {
					t.Fatalf("%d bytes: block %d: %q", k, i, s)
				}
			}
		}
	}
}

// P14.1: where the blocks of each area stand, written out.
func TestOrderOfRawWrites(t *testing.T) {
	d := newDisk(t, 12)
	for _, x := range []struct {
		epoch  uint32
		length int
		want   []int
	}{
		{0, 1000, []int{4, 5, 6, 7, 3}},
		{1, 1000, []int{8, 9, 10, 11, 3}},
		{2, 257, []int{4, 5, 3}},
		{math.MaxUint32, 256, []int{8, 3}},
		{math.MaxUint32 - 1, 1, []int{4, 3}},
		{7, 0, []int{3}},
		{8, 1024, []int{4, 5, 6, 7, 3}},
		{8, 513, []int{4, 5, 6, 3}},
	} {
		was := d.Writes()
		tells(t, "Save", Save(d, 3, 4, x.epoch, row(x.length, 2)), api.OK)
		if got := blocks(d.Trail()[was:]); !slices.Equal(got, x.want) {
			t.Errorf("the epoch %d, %d bytes: raw writes of the blocks %v: want %v", x.epoch, x.length, got, x.want)
		}
	}
}

// P14.1, P14.3: the greatest place that there may be, and a byte more than it holds.
func TestGreatestPlace(t *testing.T) {
	d := newDisk(t, api.MaxBlocks)
	p := place{1, 2047}
	for _, epoch := range []uint32{math.MaxUint32, 0} {
		saves(t, "the greatest", d, p, epoch, row(p.most(), int(epoch%2)), -1)
		loads(t, "the greatest", d, p, epoch, row(p.most(), int(epoch%2)))
	}
	keepsAll(t, "a byte more", d, p, 1, row(p.most()+1, 3), api.ErrLong)
	keepsAll(t, "a block more", d, place{1, 2048}, 1, nil, api.ErrArg)
	keepsAll(t, "a block later", d, place{2, 2047}, 1, nil, api.ErrArg)
	loads(t, "the greatest", d, p, 0, row(p.most(), 0))
	if text(t, d, 0) != "" {
		t.Error("block 0 was written")
	}
}

// P14.1: images that look like headers, and all-alike bytes.
func TestAnyBytes(t *testing.T) {
	for _, s := range []string{"\x00", strings.Repeat("\x00", 512), strings.Repeat("\xff", 300), headerOf(1, nil), headerOf(2, []byte("a")) + "a", strings.Repeat(sealed(1, 512, 0), 32)} {
		d := newDisk(t, 5)
		for epoch := range uint32(4) {
			saves(t, "any bytes", d, place{0, 2}, epoch, []byte(s), -1)
			loads(t, "any bytes", d, place{0, 2}, epoch, []byte(s))
		}
	}
}

// P14.1: a byte more than n blocks hold, and many more, are too long, and write nothing.
func TestTooLong(t *testing.T) {
	for _, n := range []int{1, 2, 24} {
		p := place{1, n}
		d := newDisk(t, 2+2*n)
		for _, over := range []int{1, 2, 255, 256, 257, n * 256, n*256 + 1, 1 << 16, 1 << 20} {
			keepsAll(t, "on a new disk", d, p, 1, make([]byte, p.most()+over), api.ErrLong)
		}
		refuses(t, "still new", d, p, api.ErrNone)
		saves(t, "whole", d, p, 9, row(p.most(), 4), -1)
		for _, over := range []int{1, 256, 1 << 16} {
			for _, epoch := range []uint32{8, 9, 10} {
				keepsAll(t, "over an image", d, p, epoch, make([]byte, p.most()+over), api.ErrLong)
				loads(t, "over an image", d, p, 9, row(p.most(), 4))
			}
		}
	}
}

// P14.1: which of Save's reasons comes first: the place, the length, the power.
func TestReasonsOfSave(t *testing.T) {
	d := newDisk(t, 5)
	saves(t, "one", d, place{0, 2}, 1, row(300, 5), -1)
	for _, off := range []bool{false, true} {
		if off {
			d.Cut(0)
		}
		for _, p := range []place{{-1, 2}, {0, 0}, {0, -1}, {0, 3}, {1, 2}, {5, 1}, {0, math.MaxInt}, {math.MaxInt, 1}} {
			keepsAll(t, "no place, too long", d, p, 2, make([]byte, 1<<16), api.ErrArg)
			keepsAll(t, "no place", d, p, 2, nil, api.ErrArg)
		}
		keepsAll(t, "too long", d, place{0, 2}, 2, make([]byte, 513), api.ErrLong)
		keepsAll(t, "too long", d, place{2, 1}, 2, make([]byte, 257), api.ErrLong)
	}
	keepsAll(t, "the power off", d, place{0, 2}, 2, row(512, 5), api.ErrPower)
	keepsAll(t, "the power off, no bytes", d, place{0, 2}, 2, nil, api.ErrPower)
	loads(t, "the power off", d, place{0, 2}, 1, row(300, 5))
}

// P14.1: what is refused counts nothing down to the failing of the power.
func TestRefusedCountsNotDown(t *testing.T) {
	d := newDisk(t, 5)
	p := place{0, 2}
	d.Cut(2)
	for range 3 {
		keepsAll(t, "no place", d, place{1, 2}, 1, row(300, 0), api.ErrArg)
		keepsAll(t, "too long", d, p, 1, row(513, 0), api.ErrLong)
		asPlain(t, "Load", d, p)
	}
	saves(t, "two were left", d, p, 1, row(256, 6), 2)
	loads(t, "two were left", d, p, 1, row(256, 6))
	saves(t, "none is left", d, p, 2, nil, 0)
}

// P14.2: which of Load's reasons comes first: the place, an empty header's block, what doesn't fit.
func TestReasonsOfLoad(t *testing.T) {
	d := newDisk(t, 6)
	p := place{1, 2}
	for _, stands := range []string{"", "x", headerOf(1, nil)} {
		write(t, d, 1, stands)
		for _, q := range []place{{1, 0}, {1, -1}, {1, 3}, {-1, 2}, {1, math.MaxInt}, {1, math.MinInt}, {6, 1}, {4, 1}, {math.MinInt, 1}} {
			refuses(t, "no place", d, q, api.ErrArg)
		}
	}
	write(t, d, 1, "")
	for i := 2; i < 6; i++ {
		write(t, d, i, strings.Repeat("x", 256))
	}
	refuses(t, "an empty header's block, full areas", d, p, api.ErrNone)
	write(t, d, 1, "x")
	refuses(t, "no header", d, p, api.ErrSum)
}

// P14.2: Load needs no power.
func TestLoadWithoutPower(t *testing.T) {
	d := newDisk(t, 5)
	p := place{0, 2}
	d.Cut(0)
	refuses(t, "new", d, p, api.ErrNone)
	d.Restore()
	saves(t, "one", d, p, 3, row(257, 7), -1)
	d.Cut(0)
	loads(t, "the power off", d, p, 3, row(257, 7))
	d.Restore()
	write(t, d, 4, "")
	d.Cut(0)
	refuses(t, "the power off", d, p, api.ErrSum)
}

// P14.2: a header's block that is shorter than 16 bytes, longer, or all another thing.
func TestNoHeader(t *testing.T) {
	for _, data := range [][]byte{nil, row(1, 8), row(300, 8), row(512, 8)} {
		for _, epoch := range []uint32{0, 1, math.MaxUint32} {
			d := newDisk(t, 5)
			p := place{0, 2}
			saves(t, "one", d, p, epoch, data, -1)
			whole := text(t, d, 0)
			for k := 1; k < 16; k++ {
				write(t, d, 0, whole[:k])
				refuses(t, "shorter", d, p, api.ErrSum)
				write(t, d, 0, whole[16-k:])
				refuses(t, "its end alone", d, p, api.ErrSum)
			}
			for k := 17; k <= 256; k++ {
				write(t, d, 0, whole+strings.Repeat("\x00", k-16))
				refuses(t, "longer", d, p, api.ErrSum)
			}
			for _, s := range []string{whole + whole, whole + "x", "x" + whole, "x", strings.Repeat("\x00", 16), strings.Repeat("\xff", 16), strings.Repeat("x", 256), numbers(epoch, uint32(len(data)), crc32.ChecksumIEEE(data))} {
				write(t, d, 0, s)
				refuses(t, "no header", d, p, api.ErrSum)
			}
			write(t, d, 0, "")
			refuses(t, "empty", d, p, api.ErrNone)
			write(t, d, 0, whole)
			loads(t, "laid back", d, p, epoch, data)
		}
	}
}

// P14.2: a header whose own sum fits, but that tells another number of bytes, another sum, another epoch.
func TestHeaderOfAnother(t *testing.T) {
	for _, epoch := range []uint32{1, 2} {
		for _, data := range [][]byte{row(256, 9), row(300, 9), row(511, 9)} {
			d := newDisk(t, 5)
			p := place{0, 2}
			saves(t, "one", d, p, epoch, data, -1)
			size, s := uint32(len(data)), crc32.ChecksumIEEE(data)
			for _, other := range []uint32{0, 1, size - 1, size + 1, 512, size ^ 1<<16, size ^ 1<<31} {
				write(t, d, 0, sealed(epoch, other, s))
				refuses(t, "another number of bytes", d, p, api.ErrSum)
			}
			for _, other := range []uint32{0, s - 1, s + 1, ^s, s ^ 1<<31} {
				write(t, d, 0, sealed(epoch, size, other))
				refuses(t, "another sum", d, p, api.ErrSum)
			}
			write(t, d, 0, sealed(epoch+1, size, s))
			refuses(t, "the other area's epoch", d, p, api.ErrSum)
			write(t, d, 0, sealed(epoch+2, size, s))
			loads(t, "another epoch of that area", d, p, epoch+2, data)
			write(t, d, 0, headerOf(epoch, data[:17]))
			loads(t, "a piece of it", d, p, epoch, data[:17])
		}
	}
}

// P14.2: a header of no bytes has the sum 0, whatever lies in the areas.
func TestHeaderOfNoBytes(t *testing.T) {
	d := newDisk(t, 5)
	p := place{0, 2}
	for _, stands := range []string{"", "x", strings.Repeat("y", 256)} {
		for i := 1; i < 5; i++ {
			write(t, d, i, stands)
		}
		for _, epoch := range epochs() {
			write(t, d, 0, sealed(epoch, 0, 0))
			loads(t, "no bytes", d, p, epoch, nil)
			write(t, d, 0, sealed(epoch, 0, 1))
			refuses(t, "no bytes, another sum", d, p, api.ErrSum)
		}
	}
}

// P14.2: a header that tells more bytes than an area holds is none, also where the blocks behind the area would give them.
func TestHeaderOfTooMany(t *testing.T) {
	for _, n := range []int{1, 2} {
		all := row(9*256, n)
		d := newDisk(t, 10)
		for i := range 9 {
			write(t, d, 1+i, string(all[i*256:][:256]))
		}
		p := place{0, n}
		for epoch := range uint32(2) {
			from := all[int(epoch)*n*256:]
			write(t, d, 0, headerOf(epoch, from[:p.most()]))
			loads(t, "as many as may be", d, p, epoch, from[:p.most()])
			for _, over := range []int{1, 2, 255, 256, 257, 512} {
				write(t, d, 0, headerOf(epoch, from[:p.most()+over]))
				refuses(t, "too many", d, p, api.ErrSum)
			}
			for _, k := range []uint32{1 << 16, 1 << 31, math.MaxUint32 - 1, math.MaxUint32, 1<<24 | 256} {
				write(t, d, 0, sealed(epoch, k, crc32.ChecksumIEEE(from[:256])))
				refuses(t, "far too many", d, p, api.ErrSum)
			}
		}
	}
}

// P14.2: a block of the area that has fewer bytes than are asked ends them, whatever stands behind it, and whatever sum the header tells.
func TestFewerBytes(t *testing.T) {
	for epoch := range uint32(2) {
		for _, k := range []int{1, 255, 256, 257, 511, 512, 513, 700, 768} {
			data := row(k, 10)
			d := newDisk(t, 7)
			p := place{0, 3}
			saves(t, "one", d, p, epoch, data, -1)
			for i, piece := range slices.Collect(slices.Chunk(data, 256)) {
				at := p.block(epoch, i)
				for _, cut := range []int{0, 1, len(piece) / 2, len(piece) - 1} {
					if cut >= len(piece) {
						continue
					}
					write(t, d, at, string(piece[:cut]))
					refuses(t, "fewer bytes", d, p, api.ErrSum)
					got := slices.Concat(data[:i*256], piece[:cut])
					whole := text(t, d, 0)
					write(t, d, 0, sealed(epoch, uint32(k), crc32.ChecksumIEEE(got)))
					refuses(t, "fewer bytes, with their sum", d, p, api.ErrSum)
					write(t, d, 0, headerOf(epoch, got))
					loads(t, "fewer bytes, so told", d, p, epoch, got)
					write(t, d, 0, whole)
				}
				write(t, d, at, string(piece))
			}
			loads(t, "laid back", d, p, epoch, data)
		}
	}
}

// P14.2: a short block isn't filled up out of the one behind it.
func TestNotFilledUp(t *testing.T) {
	for epoch := range uint32(2) {
		for _, first := range []int{0, 1, 200, 255} {
			d := newDisk(t, 7)
			p := place{0, 3}
			data := row(300, 11)
			write(t, d, p.block(epoch, 0), string(data[:first]))
			write(t, d, p.block(epoch, 1), string(data[first:min(300, first+256)]))
			write(t, d, p.block(epoch, 2), string(data[min(300, first+256):]))
			write(t, d, 0, headerOf(epoch, data))
			refuses(t, "a short one ahead", d, p, api.ErrSum)
			write(t, d, p.block(epoch, 0), string(data[:256]))
			write(t, d, p.block(epoch, 1), string(data[256:]))
			loads(t, "as it should lie", d, p, epoch, data)
		}
	}
}

// P14.2: a block that has more bytes than are asked: the others don't count; nor do blocks behind the last one.
func TestMoreBytes(t *testing.T) {
	for epoch := range uint32(2) {
		for _, k := range []int{0, 1, 255, 256, 257, 300, 511, 512, 600} {
			data := row(k, 12)
			d := newDisk(t, 7)
			p := place{0, 3}
			saves(t, "one", d, p, epoch, data, -1)
			pieces := slices.Collect(slices.Chunk(data, 256))
			if last := len(pieces) - 1; last >= 0 {
				for _, more := range []int{1, 2, 256 - len(pieces[last])} {
					if len(pieces[last])+more > 256 {
						continue
					}
					write(t, d, p.block(epoch, last), string(pieces[last])+strings.Repeat("z", more))
					loads(t, "more bytes", d, p, epoch, data)
				}
			}
			for i := len(pieces); i < p.n; i++ {
				write(t, d, p.block(epoch, i), "behind it")
			}
			loads(t, "blocks behind", d, p, epoch, data)
		}
	}
}

// P14.2, P14.3: each bit of the header and of the blocks that count is seen; none of what lies behind the image, in the other area, or outside of the place.
func TestTurnedBits(t *testing.T) {
	for _, x := range []struct {
		p      place
		epoch  uint32
		length int
	}{{place{1, 2}, 1, 300}, {place{1, 2}, 2, 512}, {place{2, 1}, math.MaxUint32, 1}, {place{1, 2}, 0, 257}} {
		d := newDisk(t, 7)
		for i := range 7 {
			write(t, d, i, string(row(256, i)))
		}
		data := row(x.length, 13)
		saves(t, "one", d, x.p, x.epoch, data, -1)
		counts := map[int]int{x.p.at: 16}
		for i, piece := range slices.Collect(slices.Chunk(data, 256)) {
			counts[x.p.block(x.epoch, i)] = len(piece)
		}
		for i := range 7 {
			was := text(t, d, i)
			for k := range len(was) * 8 {
				write(t, d, i, turned(was, k/8, k%8))
				if k/8 < counts[i] {
					refuses(t, "a bit turned", d, x.p, api.ErrSum)
				} else {
					loads(t, "a bit turned that doesn't count", d, x.p, x.epoch, data)
				}
			}
			write(t, d, i, was)
		}
	}
}

// P14.2: rows of bits turned within 32 places, in the header and in the image.
func TestTurnedRows(t *testing.T) {
	r := rand.New(rand.NewSource(14))
	d := newDisk(t, 5)
	p := place{0, 2}
	saves(t, "one", d, p, 1, row(300, 14), -1)
	for _, i := range []int{0, 3, 4} {
		was := text(t, d, i)
		for range 500 {
			b := []byte(was)
			from := r.Intn(len(b) - 3)
			pattern := r.Uint32() | 1
			for k := range 4 {
				b[from+k] ^= byte(pattern >> (8 * k))
			}
			write(t, d, i, string(b))
			refuses(t, "a row of bits", d, p, api.ErrSum)
		}
		write(t, d, i, was)
	}
	loads(t, "laid back", d, p, 1, row(300, 14))
}

// P14.3: whatever is written outside of the place changes nothing; inside of it just what the plain reading says.
func TestWrittenOutside(t *testing.T) {
	for _, n := range []int{1, 2, 3} {
		for at := range 4 {
			p := place{at, n}
			d := newDisk(t, at+1+2*n+3)
			data := row(n*256-1, at)
			saves(t, "one", d, p, uint32(at), data, -1)
			for i := range d.Blocks() {
				if i >= at && i < at+1+2*n {
					continue
				}
				for _, s := range []string{"x", strings.Repeat("y", 256), headerOf(uint32(at)+1, nil), ""} {
					write(t, d, i, s)
					loads(t, "written outside", d, p, uint32(at), data)
				}
			}
		}
	}
}

// P14.3: places beside one another, on one disk, leave each other alone.
func TestTwoPlaces(t *testing.T) {
	d := newDisk(t, 12)
	a, b := place{0, 2}, place{5, 3}
	saves(t, "the one", d, a, 1, row(512, 1), -1)
	refuses(t, "the other, new", d, b, api.ErrNone)
	for epoch := uint32(2); epoch < 9; epoch++ {
		saves(t, "the other", d, b, epoch+1, row(768-int(epoch), 2), -1)
		loads(t, "the one", d, a, epoch-1, row(512, int(epoch)-1))
		saves(t, "the one", d, a, epoch, row(512, int(epoch)), -1)
		loads(t, "the one", d, a, epoch, row(512, int(epoch)))
		loads(t, "the other", d, b, epoch+1, row(768-int(epoch), 2))
	}
	write(t, d, 0, "x")
	loads(t, "the other", d, b, 9, row(760, 2))
	refuses(t, "the one", d, a, api.ErrSum)
}

// P14.1, P14.4: the power cut behind each raw write of a Save, with it off and brought back: just these raw writes are made; the old image is told, and the new one just if all were made.
func TestCutBehindEachRawWrite(t *testing.T) {
	for _, n := range []int{1, 2, 3} {
		p := place{1, n}
		for _, e := range []uint32{0, 1, 2, 7, math.MaxUint32 - 1, math.MaxUint32} {
			for _, old := range lengths(n) {
				for _, k := range lengths(n) {
					was, data := row(old, 15), row(k, 16)
					all := len(written(p, e+1, data))
					for left := range all + 2 {
						d := newDisk(t, 2+2*n)
						saves(t, "old", d, p, e, was, -1)
						d.Cut(left)
						saves(t, "cut", d, p, e+1, data, left)
						epoch, b := e, was
						if left >= all {
							epoch, b = e+1, data
						}
						loads(t, "the power off", d, p, epoch, b)
						d.Restore()
						loads(t, "the power back", d, p, epoch, b)
						saves(t, "once more", d, p, e+1, data, -1)
						loads(t, "once more", d, p, e+1, data)
					}
				}
			}
		}
	}
}

// P14.1: on a new disk a Save that is cut tells no image; what was written ahead stays.
func TestCutOnANewDisk(t *testing.T) {
	p := place{0, 3}
	for epoch := range uint32(2) {
		for _, k := range lengths(3) {
			data := row(k, 17)
			want := written(p, epoch, data)
			for left := range len(want) {
				d := newDisk(t, 7)
				d.Cut(left)
				saves(t, "cut", d, p, epoch, data, left)
				refuses(t, "cut", d, p, api.ErrNone)
				d.Restore()
				refuses(t, "the power back", d, p, api.ErrNone)
				for _, r := range want[:left] {
					if text(t, d, r.Block) != r.Text {
						t.Fatalf("block %d was taken back", r.Block)
					}
				}
			}
		}
	}
}

// P14.4: the power fails as often as it likes, amid Saves of the same next epoch with unlike images.
func TestCutAgainAndAgain(t *testing.T) {
	p := place{0, 3}
	for _, e := range []uint32{4, 5, math.MaxUint32} {
		d := newDisk(t, 7)
		saves(t, "old", d, p, e, row(600, 18), -1)
		for round, k := range []int{768, 1, 0, 513, 300, 768} {
			for left := range (k+255)/256 + 1 {
				d.Cut(left)
				saves(t, "cut", d, p, e+1, row(k, 19+round), left)
				loads(t, "cut", d, p, e, row(600, 18))
			}
		}
		d.Restore()
		saves(t, "at last", d, p, e+1, row(700, 30), -1)
		loads(t, "at last", d, p, e+1, row(700, 30))
	}
}

// P14.3, P14.4: behind every raw write of a row of Saves, each of the next epoch, over the end of all numbers: the last image whose header was written.
func TestBehindEveryRawWrite(t *testing.T) {
	p := place{1, 3}
	row0 := []int{768, 0, 257, 256, 1, 767, 512, 0, 0, 513, 768}
	d := newDisk(t, 9)
	first := uint32(math.MaxUint32 - 4)
	var ends []int
	for i, k := range row0 {
		saves(t, "next", d, p, first+uint32(i), row(k, i), -1)
		ends = append(ends, d.Writes())
	}
	for w := range d.Writes() + 1 {
		was, err := d.After(w)
		if err != nil {
			t.Fatal(err)
		}
		whole := 0
		for whole < len(ends) && ends[whole] <= w {
			whole++
		}
		if whole == 0 {
			refuses(t, "ahead of all", was, p, api.ErrNone)
			continue
		}
		last := whole - 1
		loads(t, "behind each", was, p, first+uint32(last), row(row0[last], last))
	}
}

// P14.1, P14.4: a Save of an epoch of the same area lies over the image that counts; cut amid it, what is told is what the plain reading tells.
func TestSameArea(t *testing.T) {
	p := place{0, 2}
	for _, epoch := range []uint32{5, 7, 3, 1, math.MaxUint32} {
		for left := range 4 {
			d := newDisk(t, 5)
			saves(t, "old", d, p, 5, row(300, 20), -1)
			d.Cut(left)
			saves(t, "over it", d, p, epoch, row(400, 21), left)
			want := api.ErrSum
			if left == 0 || left == 3 {
				want = api.OK
			}
			if no := asPlain(t, "over it", d, p); no != want {
				t.Errorf("the epoch %d, cut behind %d: %v", epoch, left, no)
			}
		}
	}
}

// R3, R4: an image that is handed in is read up to its length, not written, and not kept.
func TestImageHandedIn(t *testing.T) {
	p := place{0, 3}
	for epoch := range uint32(2) {
		for _, k := range append(lengths(3), 769) {
			d := newDisk(t, 7)
			room := append(row(k, 22), "what lies behind"...)
			was := bytes.Clone(room)
			err := Save(d, 0, 3, epoch, room[:k])
			if (err == nil) != (k <= 768) {
				t.Fatalf("%d bytes: %v", k, err)
			}
			if !bytes.Equal(room, was) {
				t.Fatalf("%d bytes: the image was written into", k)
			}
			for i := range room {
				room[i] = 'z'
			}
			if k <= 768 {
				loads(t, "written into", d, p, epoch, row(k, 22))
				if !slices.Equal(d.Trail(), written(p, epoch, row(k, 22))) {
					t.Fatalf("%d bytes: the raw writes were turned", k)
				}
			}
		}
	}
}

// R4: bytes that were handed out are their taker's alone, with their spare room.
func TestImageHandedOut(t *testing.T) {
	p := place{0, 3}
	for epoch := range uint32(2) {
		for _, k := range lengths(3) {
			d := newDisk(t, 7)
			saves(t, "one", d, p, epoch, row(k, 23), -1)
			was := d.Trail()
			_, mine, err := Load(d, 0, 3)
			tells(t, "Load", err, api.OK)
			_, other, err := Load(d, 0, 3)
			tells(t, "Load", err, api.OK)
			all := mine[:cap(mine)]
			for i := range all {
				all[i] ^= 0xee
			}
			_ = append(mine, "over what lies behind"...)
			if !bytes.Equal(other, row(k, 23)) {
				t.Fatalf("%d bytes: what another Load told was turned", k)
			}
			loads(t, "written into", d, p, epoch, row(k, 23))
			if !slices.Equal(d.Trail(), was) {
				t.Fatalf("%d bytes: the raw writes were turned", k)
			}
		}
	}
}

// R3: nil and an empty image are the same.
func TestNilAndEmpty(t *testing.T) {
	for _, data := range [][]byte{nil, {}, row(9, 0)[:0]} {
		d := newDisk(t, 3)
		saves(t, "no bytes", d, place{0, 1}, 1, data, -1)
		loads(t, "no bytes", d, place{0, 1}, 1, nil)
	}
}

// R5: what Load tells hangs on the disk's blocks alone: asked again, and of the disk as it is anew.
func TestAskedAgain(t *testing.T) {
	p := place{1, 2}
	d := newDisk(t, 6)
	for epoch := uint32(1); epoch < 6; epoch++ {
		saves(t, "next", d, p, epoch, row(100*int(epoch), 24), -1)
		for range 3 {
			loads(t, "again", d, p, epoch, row(100*int(epoch), 24))
		}
		anew := newDisk(t, 6)
		for i := range 6 {
			write(t, anew, i, text(t, d, i))
		}
		loads(t, "anew", anew, p, epoch, row(100*int(epoch), 24))
	}
}

// game is a disk with one place, and what Load must tell of it as long as nobody else writes there.
type game struct {
	d     *disk.Disk
	p     place
	left  int // how many more raw writes succeed; below 0: all
	clean bool
	epoch uint32
	data  []byte
	done  int
	torn  int
}

// save is one Save of an epoch and a length; one that comes whole is the image that counts.
func (g *game) save(t *testing.T, epoch uint32, k int) {
	data := row(k, int(epoch%97))
	if k > g.p.most() {
		keepsAll(t, "played", g.d, g.p, epoch, data, api.ErrLong)
		return
	}
	was := g.d.Writes()
	saves(t, "played", g.d, g.p, epoch, data, g.left)
	made := g.d.Writes() - was
	whole := made == len(written(g.p, epoch, data))
	if g.left >= 0 {
		g.left -= made
	}
	switch {
	case whole:
		g.clean, g.epoch, g.data = true, epoch, data
		g.done++
	case made > 0:
		g.torn++
		g.clean = g.clean && epoch%2 != g.epoch%2
	}
}

// spoil writes a block with something else.
func (g *game) spoil(t *testing.T, i, arg int) {
	s := []string{"", "x", string(row(256, arg)), headerOf(uint32(arg), nil), turned(text(t, g.d, i)+"y", 0, arg%8)}[arg%5]
	if err := g.d.Write(i, s[:min(len(s), 256)]); err != nil {
		return
	}
	if g.left > 0 {
		g.left--
	}
	if i >= g.p.at && i < g.p.at+1+2*g.p.n {
		g.clean = false
	}
}

// play reads commands out of bytes: Saves of next epochs and of any, cuts, the power back, blocks that are spoilt; behind each one Load is held against the plain reading, and against the last whole Save as long as nothing of the place was spoilt.
func play(t *testing.T, commands []byte) (done, torn int) {
	g := &game{d: newDisk(t, 10), p: place{1, 3}, left: -1}
	for i := 0; i+1 < len(commands); i += 2 {
		arg := int(commands[i+1])
		switch commands[i] % 8 {
		default:
			g.save(t, g.epoch+1, arg*3+arg/64)
		case 4:
			g.save(t, epochs()[arg%len(epochs())], (arg*37)%800)
		case 5:
			g.left = arg % 5
			g.d.Cut(g.left)
		case 6:
			g.left = -1
			g.d.Restore()
		case 7:
			g.spoil(t, arg%g.d.Blocks(), arg/7)
		}
		no := asPlain(t, "played", g.d, g.p)
		if g.clean {
			tells(t, "nothing was spoilt", errOf(no), api.OK)
			loads(t, "nothing was spoilt", g.d, g.p, g.epoch, g.data)
		}
	}
	return g.done, g.torn
}

// errOf is a number as an error; OK is none.
func errOf(no api.Errno) error {
	if no == api.OK {
		return nil
	}
	return no
}

// P14.1 to P14.4: rows of commands, as they come.
func TestPlayed(t *testing.T) {
	r := rand.New(rand.NewSource(1414))
	done, torn := 0, 0
	for range 300 {
		commands := make([]byte, 120)
		r.Read(commands)
		a, b := play(t, commands)
		done, torn = done+a, torn+b
	}
	if done < 2000 || torn < 200 {
		t.Errorf("only %d Saves were done, and %d torn", done, torn)
	}
}

func FuzzArea(f *testing.F) {
	f.Add([]byte{0, 3, 0, 255, 5, 1, 0, 200, 6, 0, 0, 1, 7, 9, 0, 1})
	f.Add([]byte{5, 0, 0, 0, 0, 254, 6, 0, 4, 13, 0, 100, 5, 2, 1, 140, 7, 1})
	f.Fuzz(func(t *testing.T, commands []byte) { play(t, commands) })
}
