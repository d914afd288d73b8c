package log

import (
	"bytes"
	"errors"
	"math"
	"math/rand"
	"slices"
	"strings"
	"testing"

	"lineage/api"
	"lineage/disk"
	"lineage/record"
)

// tells checks an error's number, against all numbers; no error of this layer has a place.
func tells(t *testing.T, what string, err error, no api.Errno) {
	t.Helper()
	for n := api.OK; n <= api.ErrState+1; n++ {
		want := n == no && no != api.OK
		if errors.Is(err, n) != want {
			t.Fatalf("%s: errors.Is(%v, %d): want just %d", what, err, n, no)
		}
	}
	if no == api.OK && err != nil {
		t.Fatalf("%s: %v: want no error", what, err)
	}
	var f api.Fault
	if errors.As(err, &f) {
		t.Fatalf("%s: a place %+v: want none", what, f)
	}
}

// The plain log: the payloads whose Append has answered nil, and whether one has answered ErrPower.
type plain struct {
	from, n  int
	epoch    uint32
	payloads [][]byte
	failed   bool
}

// count is how many blocks a record has: one, and one more for each 255 bytes that go beyond 245.
func count(n int) int {
	c := 1
	for at := 245; at < n; at += 255 {
		c++
	}
	return c
}

func (p *plain) room() int {
	room := p.n
	for _, b := range p.payloads {
		room -= count(len(b))
	}
	return room
}

// append is what Append answers, and which raw writes it makes, if just left more of them succeed; below 0: all do.
func (p *plain) append(b []byte, left int) (api.Errno, []api.Raw) {
	switch {
	case p.failed:
		return api.ErrPower, nil
	case len(b) > 512:
		return api.ErrLong, nil
	case count(len(b)) > p.room():
		return api.ErrFull, nil
	}
	texts, err := record.Frame(p.epoch, b)
	if err != nil {
		panic(err)
	}
	var made []api.Raw
	for i, text := range slices.Backward(texts) {
		if left == len(made) {
			p.failed = true
			return api.ErrPower, made
		}
		made = append(made, api.Raw{Block: p.from + p.n - p.room() + i, Text: text})
	}
	p.payloads = append(p.payloads, bytes.Clone(b))
	return api.OK, made
}

// same checks what a log tells of itself.
func same(t *testing.T, what string, l *Log, p *plain) {
	t.Helper()
	if l.Room() != p.room() || l.Records() != len(p.payloads) {
		t.Fatalf("%s: Room %d, Records %d: want %d, %d", what, l.Room(), l.Records(), p.room(), len(p.payloads))
	}
}

// appends asks for one Append, of a disk on which left more raw writes succeed, and holds all that can be told of it against the plain log.
func appends(t *testing.T, what string, d *disk.Disk, l *Log, p *plain, b []byte, left int) error {
	t.Helper()
	was := d.Trail()
	no, made := p.append(b, left)
	err := l.Append(b)
	tells(t, what, err, no)
	if got := d.Trail(); !slices.Equal(got, slices.Concat(was, made)) {
		t.Fatalf("%s: raw writes of the blocks %v: want %v (or their texts are others)", what, places(got[len(was):]), places(made))
	}
	same(t, what, l, p)
	return err
}

// places are the blocks of raw writes.
func places(l []api.Raw) []int {
	var at []int
	for _, r := range l {
		at = append(at, r.Block)
	}
	return at
}

// opens opens a log and asks for just these payloads, and that nothing was written.
func opens(t *testing.T, what string, d *disk.Disk, from, n int, epoch uint32, want [][]byte) *Log {
	t.Helper()
	was := d.Trail()
	l, got, err := Open(d, from, n, epoch)
	tells(t, what, err, api.OK)
	if !slices.EqualFunc(got, want, bytes.Equal) {
		t.Fatalf("%s: Open: %d payloads, want %d: %.200q", what, len(got), len(want), got)
	}
	same(t, what, l, &plain{from: from, n: n, payloads: want})
	if !slices.Equal(d.Trail(), was) {
		t.Fatalf("%s: Open has written", what)
	}
	return l
}

// begins makes a log, on blocks of a disk, and asks that nothing was written.
func begins(t *testing.T, d *disk.Disk, from, n int, epoch uint32) (*Log, *plain) {
	t.Helper()
	was := d.Trail()
	l, err := New(d, from, n, epoch)
	tells(t, "New", err, api.OK)
	p := &plain{from: from, n: n, epoch: epoch}
	same(t, "New", l, p)
	if !slices.Equal(d.Trail(), was) {
		t.Fatal("New has written")
	}
	return l, p
}

func newDisk(t *testing.T, blocks int) *disk.Disk {
	t.Helper()
	d, err := disk.New(blocks)
	if err != nil {
		t.Fatal(err)
	}
	return d
}

// lay writes texts on blocks, from that one on.
func lay(t *testing.T, d *disk.Disk, from int, texts ...string) {
	t.Helper()
	for i, s := range texts {
		if err := d.Write(from+i, s); err != nil {
			t.Fatal(err)
		}
	}
}

// texts are n blocks of a disk, from that one on.
func texts(t *testing.T, d *disk.Disk, from, n int) []string {
	t.Helper()
	l := make([]string, n)
	for i := range l {
		s, err := d.Read(from + i)
		if err != nil {
			t.Fatal(err)
		}
		l[i] = s
	}
	return l
}

// framed are the blocks of records of some lengths, one behind the other.
func framed(t *testing.T, epoch uint32, lengths ...int) []string {
	t.Helper()
	var l []string
	for _, n := range lengths {
		b, err := record.Frame(epoch, row(n))
		if err != nil {
			t.Fatal(err)
		}
		l = append(l, b...)
	}
	return l
}

// row is a payload of n bytes.
func row(n int) []byte {
	b := make([]byte, n)
	rand.New(rand.NewSource(int64(n) + 13)).Read(b)
	return b
}

func rows(lengths ...int) [][]byte {
	var l [][]byte
	for _, n := range lengths {
		l = append(l, row(n))
	}
	return l
}

func epochs() []uint32 {
	return []uint32{0, 1, 7, 255, 256, 0x63636363, 0x68686868, 1 << 31, math.MaxUint32 - 1, math.MaxUint32}
}

// lengths are the payloads' lengths that are asked of everything: of one, two and three blocks.
func lengths() []int { return []int{0, 1, 2, 244, 245, 246, 499, 500, 501, 511, 512} }

// P13.1 to P13.4: the chapter's examples, one behind the other.
func TestExamples(t *testing.T) {
	d := newDisk(t, 4)
	for _, x := range [][2]int{{1, 4}, {-1, 2}, {0, 0}} {
		l, err := New(d, x[0], x[1], 7)
		tells(t, "New", err, api.ErrArg)
		if l != nil {
			t.Errorf("New(%d, %d): a log beside an error", x[0], x[1])
		}
	}
	l, err := New(d, 1, 3, 7)
	tells(t, "New", err, api.OK)
	if l.Room() != 3 || l.Records() != 0 {
		t.Errorf("New: %d, %d: want 3, 0", l.Room(), l.Records())
	}
	tells(t, "2 bytes", l.Append(row(2)), api.OK)
	tells(t, "246 bytes", l.Append(row(246)), api.OK)
	if l.Room() != 0 || l.Records() != 2 {
		t.Errorf("both: %d, %d: want 0, 2", l.Room(), l.Records())
	}
	tells(t, "1 byte", l.Append(row(1)), api.ErrFull)
	tells(t, "513 bytes", l.Append(row(513)), api.ErrLong)
	opens(t, "the epoch 7", d, 1, 3, 7, rows(2, 246))
	opens(t, "the epoch 8", d, 1, 3, 8, nil)
	l, err = New(d, 1, 3, 9)
	tells(t, "New", err, api.OK)
	tells(t, "2 bytes", l.Append(row(2)), api.OK)
	l = opens(t, "the epoch 9", d, 1, 3, 9, rows(2))
	d.Cut(1)
	tells(t, "torn", l.Append(row(246)), api.ErrPower)
	tells(t, "behind it", l.Append(row(1)), api.ErrPower)
	d.Restore()
	opens(t, "without that record", d, 1, 3, 9, rows(2))
}

// P13.1, P13.2: which blocks a log may lie on; New and Open tell the same, and write nothing.
func TestPlaces(t *testing.T) {
	for _, blocks := range []int{1, 2, 4, 65, api.MaxBlocks} {
		d := newDisk(t, blocks)
		for _, from := range []int{math.MinInt, math.MinInt + 1, -blocks, -2, -1, 0, 1, 2, 3, blocks / 2, blocks - 2, blocks - 1, blocks, blocks + 1, math.MaxInt - 1, math.MaxInt} {
			left := 0
			if from >= 0 && from < blocks {
				left = blocks - from
			}
			for _, n := range []int{math.MinInt, math.MinInt + 1, -2, -1, 0, 1, 2, left - 1, left, left + 1, blocks, blocks + 1, math.MaxInt - 1, math.MaxInt} {
				no := api.ErrArg
				if n >= 1 && n <= left {
					no = api.OK
				}
				for _, epoch := range epochs() {
					made, err := New(d, from, n, epoch)
					tells(t, "New", err, no)
					opened, payloads, err := Open(d, from, n, epoch)
					tells(t, "Open", err, no)
					if len(payloads) != 0 || (made == nil) != (no != api.OK) || (opened == nil) != (no != api.OK) {
						t.Fatalf("%d blocks: (%d, %d): %v, %v, %d payloads", blocks, from, n, made, opened, len(payloads))
					}
					if no == api.OK {
						same(t, "New", made, &plain{n: n})
						same(t, "Open", opened, &plain{n: n})
					}
				}
			}
		}
		if d.Writes() != 0 {
			t.Errorf("%d blocks: %d raw writes", blocks, d.Writes())
		}
	}
}

// P13.1, P13.2, R1: no disk has no blocks.
func TestNoDisk(t *testing.T) {
	for _, d := range []*disk.Disk{nil, {}} {
		for _, n := range []int{-1, 0, 1, math.MaxInt} {
			l, err := New(d, 0, n, 7)
			tells(t, "New", err, api.ErrArg)
			o, payloads, err := Open(d, 0, n, 7)
			tells(t, "Open", err, api.ErrArg)
			if l != nil || o != nil || len(payloads) != 0 {
				t.Errorf("(0, %d): more than an error", n)
			}
		}
	}
}

// P13.1, P13.2: neither needs the power, or counts down to its failing.
func TestMadeWithoutPower(t *testing.T) {
	d := newDisk(t, 6)
	lay(t, d, 1, framed(t, 7, 300, 3)...)
	d.Cut(0)
	begins(t, d, 1, 5, 7)
	opens(t, "the power off", d, 1, 5, 7, rows(300, 3))
	d.Cut(1)
	for range 3 {
		begins(t, d, 4, 2, 7)
		opens(t, "the power going to fail", d, 1, 5, 7, rows(300, 3))
	}
	l, p := begins(t, d, 4, 2, 7)
	appends(t, "one raw write was left", d, l, p, row(1), 1)
	appends(t, "none is left", d, l, p, row(1), 0)
}

// P13.3, P13.4, P13.6: every length, in every epoch: the raw writes and their order, Room and Records.
func TestAppendOfEachLength(t *testing.T) {
	for n := range api.MaxRecord + 3 {
		for _, epoch := range epochs() {
			d := newDisk(t, 9)
			l, p := begins(t, d, 1, 7, epoch)
			appends(t, "the first", d, l, p, row(n), -1)
			appends(t, "the second", d, l, p, row(n), -1)
			opens(t, "opened", d, 1, 7, epoch, p.payloads)
		}
	}
}

// P13.3: the blocks, written out: the last one first, the first one last.
func TestOrderOfRawWrites(t *testing.T) {
	d := newDisk(t, 12)
	l, _ := begins(t, d, 3, 8, 7)
	for _, n := range []int{512, 0, 246, 501} {
		err := l.Append(row(n))
		if (err == nil) != (n != 501) {
			t.Errorf("%d bytes: %v", n, err)
		}
	}
	if got, want := places(d.Trail()), []int{5, 4, 3, 6, 8, 7}; !slices.Equal(got, want) {
		t.Errorf("raw writes of the blocks %v: want %v", got, want)
	}
	want := slices.Concat([]string{"", "", ""}, framed(t, 7, 512, 0, 246), []string{"", "", ""})
	if got := texts(t, d, 0, 12); !slices.Equal(got, want) {
		t.Errorf("the disk: %.200q", got)
	}
}

// P13.3: payloads that look like blocks, and nil.
func TestAppendOfAnyBytes(t *testing.T) {
	for _, b := range []string{"", "h", "c", "h\x07\x00\x00\x00", strings.Repeat("c", 512), strings.Repeat("h\x07\x00\x00\x00", 102), strings.Repeat("\x00", 300), strings.Repeat("\xff", 246), framed(t, 7, 20)[0], string(row(245)) + framed(t, 7, 244)[0]} {
		d := newDisk(t, 8)
		l, p := begins(t, d, 0, 8, 7)
		for range 2 {
			appends(t, "any bytes", d, l, p, []byte(b), -1)
			opens(t, "any bytes", d, 0, 8, 7, p.payloads)
		}
	}
	d := newDisk(t, 2)
	l, p := begins(t, d, 0, 2, 0)
	appends(t, "nil", d, l, p, nil, -1)
	appends(t, "empty", d, l, p, []byte{}, -1)
	opens(t, "two empty ones", d, 0, 2, 0, [][]byte{nil, nil})
}

// P13.3, P13.6: a log that has room for just the record's blocks, and for one block fewer; what is refused changes nothing.
func TestFull(t *testing.T) {
	for _, ahead := range [][]int{nil, {3}, {512, 0}, {246, 246}} {
		for _, n := range lengths() {
			room := count(n)
			for _, k := range ahead {
				room += count(k)
			}
			for _, blocks := range []int{room, room - 1} {
				if blocks == 0 {
					continue
				}
				d := newDisk(t, blocks+4)
				l, p := begins(t, d, 2, blocks, 7)
				for _, k := range ahead {
					appends(t, "ahead", d, l, p, row(k), -1)
				}
				err := appends(t, "the last", d, l, p, row(n), -1)
				if blocks == room && (err != nil || l.Room() != 0) || blocks < room && !errors.Is(err, api.ErrFull) {
					t.Fatalf("%d bytes on %d of %d blocks: %v, %d left", n, blocks, room, err, l.Room())
				}
				opens(t, "opened", d, 2, blocks, 7, p.payloads)
				for p.room() > 0 {
					appends(t, "what is left is still there", d, l, p, row(1), -1)
				}
				for _, k := range []int{0, 245, 246, 512} {
					tells(t, "full", appends(t, "full", d, l, p, row(k), -1), api.ErrFull)
				}
				opens(t, "full", d, 2, blocks, 7, p.payloads)
			}
		}
	}
}

// P13.3, P13.6: too long ones, also where there is no room, change nothing.
func TestTooLong(t *testing.T) {
	d := newDisk(t, 5)
	l, p := begins(t, d, 1, 3, 7)
	for range 4 {
		for _, n := range []int{513, 514, 755, 756, 65536, 65537, 1 << 20} {
			tells(t, "too long", appends(t, "too long", d, l, p, make([]byte, n), -1), api.ErrLong)
		}
		opens(t, "opened", d, 1, 3, 7, p.payloads)
		appends(t, "between", d, l, p, row(9), -1)
	}
}

// P13.3: which reason comes first: an earlier ErrPower, too long, no room, the power.
func TestReasons(t *testing.T) {
	d := newDisk(t, 3)
	l, p := begins(t, d, 0, 2, 7)
	appends(t, "one", d, l, p, row(1), -1)
	d.Cut(0)
	for range 2 {
		tells(t, "too long, no room, the power off", appends(t, "too long", d, l, p, row(513), 0), api.ErrLong)
		tells(t, "no room, the power off", appends(t, "no room", d, l, p, row(246), 0), api.ErrFull)
	}
	tells(t, "the power off", appends(t, "off", d, l, p, row(1), 0), api.ErrPower)
	for _, back := range []bool{false, true} {
		if back {
			d.Restore()
		}
		for _, n := range []int{0, 1, 245, 246, 512, 513, 1 << 20} {
			tells(t, "behind it", appends(t, "behind it", d, l, p, make([]byte, n), 0), api.ErrPower)
		}
	}
	l = opens(t, "opened again", d, 0, 2, 7, p.payloads)
	p.failed = false
	tells(t, "opened again", appends(t, "opened again", d, l, p, row(513), -1), api.ErrLong)
	tells(t, "opened again", appends(t, "opened again", d, l, p, row(246), -1), api.ErrFull)
	tells(t, "opened again", appends(t, "opened again", d, l, p, row(1), -1), api.OK)
}

// P13.3: what was refused with ErrLong or ErrFull is no ErrPower: a later Append succeeds, with the power back.
func TestRefusedIsNotFailed(t *testing.T) {
	d := newDisk(t, 2)
	l, p := begins(t, d, 0, 2, 7)
	d.Cut(0)
	appends(t, "too long", d, l, p, row(513), 0)
	appends(t, "no room", d, l, p, row(512), 0)
	d.Restore()
	tells(t, "the power back", appends(t, "the power back", d, l, p, row(2), -1), api.OK)
}

// P13.3, P13.5: the power cut behind each raw write of a record of one, two and three blocks: just these writes are made, and no later one is tried; Open tells the others alone.
func TestCutBehindEachRawWrite(t *testing.T) {
	for _, ahead := range [][]int{nil, {3}, {512, 245, 246}} {
		for _, n := range lengths() {
			for left := range count(n) + 2 {
				d := newDisk(t, 20)
				l, p := begins(t, d, 2, 16, 7)
				for _, k := range ahead {
					appends(t, "ahead", d, l, p, row(k), -1)
				}
				d.Cut(left)
				err := appends(t, "cut", d, l, p, row(n), left)
				if (err == nil) != (left >= count(n)) {
					t.Fatalf("%d bytes, cut behind %d: %v", n, left, err)
				}
				opens(t, "the power off", d, 2, 16, 7, p.payloads)
				d.Restore()
				opens(t, "the power back", d, 2, 16, 7, p.payloads)
				appends(t, "the same log", d, l, p, row(n), -1)
				l = opens(t, "opened", d, 2, 16, 7, p.payloads)
				p.failed = false
				for _, k := range []int{1, 246} {
					tells(t, "appended on", appends(t, "appended on", d, l, p, row(k), -1), api.OK)
					opens(t, "appended on", d, 2, 16, 7, p.payloads)
				}
			}
		}
	}
}

// P13.3: behind a write that failed the log writes nothing more: neither the rest of that record, nor another one, with the power back.
func TestNothingWrittenBehindAFailure(t *testing.T) {
	d := newDisk(t, 6)
	l, p := begins(t, d, 0, 6, 7)
	d.Cut(1)
	appends(t, "torn", d, l, p, row(512), 1)
	d.Restore()
	appends(t, "behind it", d, l, p, row(512), -1)
	if d.Writes() != 1 {
		t.Errorf("%d raw writes: want 1", d.Writes())
	}
	if got, want := texts(t, d, 0, 6), []string{"", "", framed(t, 7, 512)[2], "", "", ""}; !slices.Equal(got, want) {
		t.Errorf("the disk: %.200q", got)
	}
}

// P13.5: behind every raw write of a whole row of Appends, over blocks of other epochs and what else may stand there, Open tells the payloads whose last raw write was made, and no others.
func TestBehindEveryRawWrite(t *testing.T) {
	row0 := []int{512, 3, 246, 0, 501, 500, 245}
	stands := [][]string{
		make([]string, 14),
		framed(t, 6, 512, 512, 512, 512),
		framed(t, 6, 0, 1, 2, 3, 4, 5, 6, 7, 8, 9, 10, 11, 12, 13),
		framed(t, 8, 300, 3, 300, 3, 512, 300),
		{"c", "h", "", "x", "h\x07", "h\x07\x00\x00", "H\x07\x00\x00\x00", "ch\x07\x00\x00\x00", strings.Repeat("\xff", 256)},
		slices.Repeat([]string{framed(t, 7, 512)[1]}, 14), // what follows in a record of this epoch, without a first block
	}
	for _, stood := range stands {
		d := newDisk(t, 16)
		lay(t, d, 1, stood...)
		l, p := begins(t, d, 1, 14, 7)
		from := d.Writes()
		ends := []int{from}
		for _, n := range row0 {
			appends(t, "one more", d, l, p, row(n), -1)
			ends = append(ends, d.Writes())
		}
		for w := from; w <= d.Writes(); w++ {
			was, err := d.After(w)
			if err != nil {
				t.Fatal(err)
			}
			whole := 0
			for ends[whole] < w {
				whole++
			}
			if ends[whole] > w {
				whole--
			}
			again := opens(t, "behind each", was, 1, 14, 7, rows(row0[:whole]...))
			q := &plain{from: 1, n: 14, epoch: 7, payloads: rows(row0[:whole]...)}
			for _, n := range row0[whole:] {
				tells(t, "appended on", appends(t, "appended on", was, again, q, row(n), -1), api.OK)
			}
			opens(t, "appended on", was, 1, 14, 7, rows(row0...))
		}
	}
}

// P13.5: the power fails as often as it likes, and what was torn is torn again.
func TestTornAgainAndAgain(t *testing.T) {
	for _, first := range []int{246, 501} {
		for _, second := range []int{0, 246, 500, 512} {
			d := newDisk(t, 8)
			l, p := begins(t, d, 0, 8, math.MaxUint32)
			appends(t, "whole", d, l, p, row(20), -1)
			for _, n := range []int{first, second, first, second} {
				for left := range count(n) {
					d.Cut(left)
					tells(t, "torn", appends(t, "torn", d, l, p, row(n), left), api.ErrPower)
					l = opens(t, "torn", d, 0, 8, math.MaxUint32, rows(20))
					p.failed = false
				}
			}
			d.Restore()
			appends(t, "at last", d, l, p, row(second), -1)
			opens(t, "at last", d, 0, 8, math.MaxUint32, rows(20, second))
		}
	}
}

// P13.2, P13.5: a log on blocks that hold records of other epochs: it has none of them; they are theirs until they are written over.
func TestOnRecordsOfAnotherEpoch(t *testing.T) {
	for _, epoch := range epochs() {
		for _, other := range epochs() {
			if other == epoch {
				continue
			}
			d := newDisk(t, 8)
			lay(t, d, 0, framed(t, other, 512, 3, 246)...)
			opens(t, "of another epoch", d, 0, 8, epoch, nil)
			l, p := begins(t, d, 0, 8, epoch)
			opens(t, "the other one", d, 0, 8, other, rows(512, 3, 246))
			appends(t, "over it", d, l, p, row(1), -1)
			opens(t, "behind it stand others", d, 0, 8, epoch, rows(1))
			opens(t, "the other one", d, 0, 8, other, nil)
			appends(t, "over it", d, l, p, row(300), -1)
			opens(t, "behind it stand others", d, 0, 8, epoch, rows(1, 300))
		}
	}
}

// P13.1, P13.2: on blocks that hold records of its own epoch, New has none, and Open those that Scan tells, also of old ones behind new ones.
func TestOnRecordsOfItsOwnEpoch(t *testing.T) {
	for _, epoch := range []uint32{0, 1, math.MaxUint32} {
		d := newDisk(t, 9)
		lay(t, d, 1, framed(t, epoch, 3, 246, 512, 4)...)
		l, p := begins(t, d, 1, 7, epoch)
		opens(t, "the old ones", d, 1, 7, epoch, rows(3, 246, 512, 4))
		appends(t, "over the first", d, l, p, row(5), -1)
		opens(t, "old ones behind", d, 1, 7, epoch, rows(5, 246, 512, 4))
		appends(t, "over the second's first", d, l, p, row(6), -1)
		opens(t, "a torn one behind", d, 1, 7, epoch, rows(5, 6))
		appends(t, "over the rest of it", d, l, p, row(7), -1)
		again := opens(t, "old ones behind", d, 1, 7, epoch, rows(5, 6, 7, 512, 4))
		tells(t, "full", again.Append(nil), api.ErrFull)
		same(t, "the first log", l, p)
		appends(t, "the first log", d, l, p, row(501), -1)
		opens(t, "both", d, 1, 7, epoch, rows(5, 6, 7, 501, 4))
	}
}

// P13.2: the log's blocks alone are read: not those ahead of it, nor those behind it.
func TestBlocksBesideTheLog(t *testing.T) {
	all := framed(t, 7, 1, 512, 246, 2, 3)
	d := newDisk(t, len(all))
	lay(t, d, 0, all...)
	for from := range len(all) {
		for n := 1; from+n <= len(all); n++ {
			want, used := record.Scan(7, all[from:from+n])
			l := opens(t, "a part of the disk", d, from, n, 7, want)
			if l.Room() != n-used {
				t.Errorf("(%d, %d): Room %d: want %d", from, n, l.Room(), n-used)
			}
		}
	}
	opens(t, "one of three is behind its end", d, 0, 3, 7, rows(1))
	opens(t, "just two records", d, 0, 4, 7, rows(1, 512))
}

// P13.2: blocks of any kind: Open tells what Scan tells, and appends behind that.
func TestOpenAsScan(t *testing.T) {
	r := rand.New(rand.NewSource(132))
	told := 0
	for range 3000 {
		d := newDisk(t, 16)
		var l []string
		for len(l) < 12 {
			epoch := uint32(7)
			if r.Intn(8) == 0 {
				epoch = 6
			}
			l = append(l, framed(t, epoch, lengths()[r.Intn(len(lengths()))])...)
		}
		for range r.Intn(3) {
			l[r.Intn(len(l))] = []string{"", "c", "h", l[0], l[len(l)-1], "x"}[r.Intn(6)]
		}
		lay(t, d, 1, l...)
		n := 1 + r.Intn(15)
		want, _ := record.Scan(7, texts(t, d, 1, n))
		again := opens(t, "as Scan", d, 1, n, 7, want)
		p := &plain{from: 1, n: n, epoch: 7, payloads: want}
		appends(t, "behind these", d, again, p, row(lengths()[r.Intn(len(lengths()))]), -1)
		told += len(want)
	}
	if told < 5000 {
		t.Errorf("only %d records were told", told)
	}
}

// Whoever else writes the log's blocks is heard by a later Open alone.
func TestWrittenByOthers(t *testing.T) {
	d := newDisk(t, 8)
	l, p := begins(t, d, 1, 7, 7)
	appends(t, "one", d, l, p, row(3), -1)
	appends(t, "two", d, l, p, row(246), -1)
	lay(t, d, 1, "")
	same(t, "written by another", l, p)
	appends(t, "three", d, l, p, row(4), -1)
	opens(t, "the first is gone", d, 1, 7, 7, nil)
	lay(t, d, 1, framed(t, 7, 8)...)
	lay(t, d, 5, framed(t, 7, 9)...)
	same(t, "written by another", l, p)
	opens(t, "another first, one behind", d, 1, 7, 7, rows(8, 246, 4, 9))
	appends(t, "four", d, l, p, row(5), -1)
	opens(t, "over the one behind", d, 1, 7, 7, rows(8, 246, 4, 5))
}

// Logs on one disk, beside each other, leave each other's blocks alone; what one answered with ErrPower, the other is asked by itself.
func TestTwoLogs(t *testing.T) {
	d := newDisk(t, 10)
	a, p := begins(t, d, 0, 5, 7)
	b, q := begins(t, d, 5, 5, 7)
	for _, n := range []int{300, 2, 246, 1} {
		appends(t, "the one", d, a, p, row(n), -1)
		appends(t, "the other", d, b, q, row(n+1), -1)
	}
	opens(t, "the one", d, 0, 5, 7, rows(300, 2, 246))
	opens(t, "the other", d, 5, 5, 7, rows(301, 3, 247))
	d = newDisk(t, 10)
	a, p = begins(t, d, 0, 5, 7)
	b, q = begins(t, d, 5, 5, 7)
	d.Cut(0)
	appends(t, "failed", d, a, p, row(1), 0)
	d.Restore()
	tells(t, "the other", appends(t, "the other", d, b, q, row(1), -1), api.OK)
	tells(t, "the one", appends(t, "the one", d, a, p, row(1), -1), api.ErrPower)
}

// P13.4: the greatest disk, full of the least records.
func TestGreatestLog(t *testing.T) {
	d := newDisk(t, api.MaxBlocks)
	l, _ := begins(t, d, 0, api.MaxBlocks, 1)
	for i := range api.MaxBlocks {
		if l.Room() != api.MaxBlocks-i || l.Records() != i {
			t.Fatalf("behind %d: %d, %d", i, l.Room(), l.Records())
		}
		tells(t, "one more", l.Append([]byte{byte(i), byte(i >> 8)}), api.OK)
	}
	tells(t, "full", l.Append(nil), api.ErrFull)
	l, payloads, err := Open(d, 0, api.MaxBlocks, 1)
	tells(t, "Open", err, api.OK)
	if len(payloads) != api.MaxBlocks || l.Room() != 0 || l.Records() != api.MaxBlocks {
		t.Fatalf("Open: %d payloads, %d, %d", len(payloads), l.Room(), l.Records())
	}
	for i, p := range payloads {
		if !bytes.Equal(p, []byte{byte(i), byte(i >> 8)}) {
			t.Fatalf("payload %d: %v", i, p)
		}
	}
}

// R3, R4: a payload that is handed in is read up to its length, not written, and not kept.
func TestPayloadHandedIn(t *testing.T) {
	for _, n := range append(lengths(), 513) {
		d := newDisk(t, 8)
		l, p := begins(t, d, 0, 8, 7)
		room := append(row(n), "what lies behind"...)
		was := bytes.Clone(room)
		for range 2 {
			appends(t, "handed in", d, l, p, room[:n], -1)
			if !bytes.Equal(room, was) {
				t.Fatalf("%d bytes: the payload was written", n)
			}
		}
		for i := range room {
			room[i] = 'z'
		}
		same(t, "written into", l, p)
		opens(t, "written into", d, 0, 8, 7, p.payloads)
		appends(t, "written into", d, l, p, row(1), -1)
		opens(t, "written into", d, 0, 8, 7, p.payloads)
	}
}

// R4: payloads that were handed out are their taker's alone, with their spare room.
func TestPayloadsHandedOut(t *testing.T) {
	lengths := []int{3, 300, 512, 1, 245, 246}
	d := newDisk(t, 14)
	l, p := begins(t, d, 1, 13, 7)
	for _, n := range lengths {
		appends(t, "one more", d, l, p, row(n), -1)
	}
	l, mine, err := Open(d, 1, 13, 7)
	tells(t, "Open", err, api.OK)
	_, other, err := Open(d, 1, 13, 7)
	tells(t, "Open", err, api.OK)
	for i := range mine {
		b := mine[i][:cap(mine[i])]
		for k := range b {
			b[k] ^= 0xee
		}
		_ = append(mine[i], "over what lies behind"...)
		for k := i + 1; k < len(mine); k++ {
			if !bytes.Equal(mine[k], row(lengths[k])) {
				t.Errorf("payload %d was turned with payload %d", k, i)
			}
		}
	}
	clear(mine[:cap(mine)])
	if !slices.EqualFunc(other, rows(lengths...), bytes.Equal) {
		t.Error("what another Open told was turned")
	}
	same(t, "written into", l, p)
	opens(t, "written into", d, 1, 13, 7, rows(lengths...))
	appends(t, "written into", d, l, p, row(2), -1)
	opens(t, "written into", d, 1, 13, 7, rows(append(lengths, 2)...))
}

// R5: Room and Records, asked as often as one likes, change nothing.
func TestAskedAgain(t *testing.T) {
	d := newDisk(t, 5)
	l, p := begins(t, d, 0, 5, 7)
	for _, n := range []int{3, 246, 512, 513, 0, 1, 2} {
		for range 3 {
			same(t, "again", l, p)
		}
		appends(t, "between", d, l, p, row(n), -1)
	}
	if d.Writes() != 5 {
		t.Errorf("%d raw writes: want 5", d.Writes())
	}
}

// play reads commands out of bytes: Appends of all lengths, cuts, the power back, Opens and logs of a next epoch, held against the plain log. It answers how many Appends succeeded, and how many were torn.
func play(t *testing.T, commands []byte) (done, torn int) {
	d := newDisk(t, 20)
	l, p := begins(t, d, 2, 16, 0)
	left := -1
	for i := 0; i+1 < len(commands); i += 2 {
		arg := int(commands[i+1])
		switch commands[i] % 8 {
		default:
			n := arg
			if arg >= 128 {
				n = 231 + (arg-128)*9/4 // up to 516
			}
			before := d.Writes()
			err := appends(t, "Append", d, l, p, row(n), left)
			if left > 0 {
				left -= d.Writes() - before
			}
			if err == nil {
				done++
			} else if d.Writes() > before {
				torn++
			}
		case 4:
			left = arg % 4
			d.Cut(left)
		case 5:
			left = -1
			d.Restore()
		case 6:
			l = opens(t, "Open", d, 2, 16, p.epoch, p.payloads)
			p.failed = false
		case 7:
			if arg < 64 || p.room() == 0 {
				l, p = begins(t, d, 2, 16, p.epoch+1)
			}
		}
	}
	opens(t, "at the end", d, 2, 16, p.epoch, p.payloads)
	for _, i := range []int{0, 1, 18, 19} {
		if s, err := d.Read(i); err != nil || s != "" {
			t.Fatalf("block %d isn't the log's: %q, %v", i, s, err)
		}
	}
	return done, torn
}

// P13.1 to P13.6: rows of commands, as they come.
func TestPlayed(t *testing.T) {
	r := rand.New(rand.NewSource(1313))
	done, torn := 0, 0
	for range 400 {
		commands := make([]byte, 200)
		r.Read(commands)
		a, b := play(t, commands)
		done, torn = done+a, torn+b
	}
	if done < 2000 || torn < 200 {
		t.Errorf("only %d Appends were done, and %d torn", done, torn)
	}
}

func FuzzLog(f *testing.F) {
	f.Add([]byte{0, 3, 0, 255, 4, 1, 0, 200, 5, 0, 0, 1, 6, 0, 0, 1})
	f.Add([]byte{4, 0, 0, 0, 0, 254, 6, 0, 5, 0, 7, 0, 1, 140, 6, 0})
	f.Fuzz(func(t *testing.T, commands []byte) { play(t, commands) })
}
