package disk

import (
	"errors"
	"math"
	"math/rand"
	"slices"
	"strconv"
	"strings"
	"testing"
	"unsafe"

	"lineage/api"
)

// tells checks an error's number, against all numbers; no error of this layer has a place.
func tells(t *testing.T, what string, err error, no api.Errno) {
	t.Helper()
	for n := api.OK; n <= api.ErrState+1; n++ {
		want := n == no && no != api.OK
		if errors.Is(err, n) != want {
			t.Errorf("%.80q: errors.Is(%v, %d): want just %d", what, err, n, no)
		}
	}
	if no == api.OK && err != nil {
		t.Errorf("%.80q: %v: want no error", what, err)
	}
	var f api.Fault
	if errors.As(err, &f) {
		t.Errorf("%.80q: a place %+v: want none", what, f)
	}
}

// The plain disk: nothing but the raw writes that were made, and how many more may be.

type plain struct {
	blocks int
	made   []api.Raw
	left   int // below 0: the power isn't going to fail
}

func (p *plain) read(i int) (string, api.Errno) {
	if i < 0 || i >= p.blocks {
		return "", api.ErrArg
	}
	for _, r := range slices.Backward(p.made) {
		if r.Block == i {
			return r.Text, api.OK
		}
	}
	return "", api.OK
}

func (p *plain) write(i int, s string) api.Errno {
	switch {
	case i < 0 || i >= p.blocks:
		return api.ErrArg
	case len(s) > 256:
		return api.ErrLong
	case p.left == 0:
		return api.ErrPower
	}
	if p.left > 0 {
		p.left--
	}
	p.made = append(p.made, api.Raw{Block: i, Text: s})
	return api.OK
}

func (p *plain) after(n int) *plain {
	return &plain{blocks: p.blocks, made: slices.Clone(p.made[:n]), left: -1}
}

// same checks all that a disk can be asked, but for its power.
func same(t *testing.T, what string, d *Disk, p *plain) {
	t.Helper()
	if d.Blocks() != p.blocks {
		t.Errorf("%s: Blocks: %d, want %d", what, d.Blocks(), p.blocks)
	}
	if d.Writes() != len(p.made) {
		t.Errorf("%s: Writes: %d, want %d", what, d.Writes(), len(p.made))
	}
	if got := d.Trail(); !slices.Equal(got, p.made) {
		t.Errorf("%s: Trail: %+v, want %+v", what, got, p.made)
	}
	for i := -1; i <= p.blocks; i++ {
		got, err := d.Read(i)
		want, no := p.read(i)
		tells(t, what+": Read "+strconv.Itoa(i), err, no)
		if got != want {
			t.Errorf("%s: Read %d: %q, want %q", what, i, got, want)
		}
	}
}

func made(t *testing.T, blocks int) *Disk {
	t.Helper()
	d, err := New(blocks)
	if err != nil || d == nil {
		t.Fatalf("New %d: %v, %v", blocks, d, err)
	}
	return d
}

func behind(t *testing.T, d *Disk, n int) *Disk {
	t.Helper()
	out, err := d.After(n)
	if err != nil || out == nil {
		t.Fatalf("After %d: %v, %v", n, out, err)
	}
	return out
}

func write(t *testing.T, d *Disk, i int, s string, no api.Errno) {
	t.Helper()
	tells(t, "Write "+strconv.Itoa(i)+" "+s, d.Write(i, s), no)
}

func read(t *testing.T, d *Disk, i int, want string) {
	t.Helper()
	if got, err := d.Read(i); got != want || err != nil {
		t.Errorf("Read %d: %q, %v, want %q", i, got, err, want)
	}
}

// P9.1
func TestNew(t *testing.T) {
	for _, n := range []int{math.MinInt, -4096, -1, 0, 4097, 8192, 1 << 32, 1<<32 + 1, math.MaxInt} {
		d, err := New(n)
		tells(t, "New "+strconv.Itoa(n), err, api.ErrArg)
		if d != nil {
			t.Errorf("New %d: a disk beside its error", n)
		}
	}
	for _, n := range []int{1, 2, 65, 4095, 4096} {
		d := made(t, n)
		same(t, "New "+strconv.Itoa(n), d, &plain{blocks: n})
		write(t, d, n-1, "last", api.OK)
		write(t, d, n, "behind", api.ErrArg)
	}
}

// P9.1: the limits are those of the document.
func TestLimits(t *testing.T) {
	if api.MaxBlocks != 4096 || api.BlockBytes != 256 {
		t.Errorf("MaxBlocks %d, BlockBytes %d", api.MaxBlocks, api.BlockBytes)
	}
}

// P9.2
func TestReadAndWriteBlocks(t *testing.T) {
	const blocks = 3
	d := made(t, blocks)
	p := &plain{blocks: blocks, left: -1}
	for n, i := range []int{math.MinInt, -3, -1, 0, blocks - 1, blocks, blocks + 1, 1 << 32, math.MaxInt} {
		s := "text " + strconv.Itoa(n)
		write(t, d, i, s, p.write(i, s))
		got, err := d.Read(i)
		want, no := p.read(i)
		tells(t, "Read "+strconv.Itoa(i), err, no)
		if got != want {
			t.Errorf("Read %d: %q, want %q", i, got, want)
		}
	}
	same(t, "behind", d, p)
}

// P9.2: a text is taken as it is, also an empty one, and one that is no UTF-8.
func TestTexts(t *testing.T) {
	d := made(t, 2)
	p := &plain{blocks: 2, left: -1}
	for _, s := range []string{"", "x", "\x00", "\xff\xfe", "é\n", strings.Repeat("b", 255), strings.Repeat("c", 256), ""} {
		write(t, d, 1, s, api.OK)
		p.write(1, s)
		read(t, d, 1, s)
		read(t, d, 0, "")
	}
	for _, n := range []int{257, 258, 512, 1 << 16} {
		write(t, d, 1, strings.Repeat("d", n), api.ErrLong)
	}
	write(t, d, 0, strings.Repeat("é", 128), api.OK)
	p.write(0, strings.Repeat("é", 128))
	write(t, d, 0, strings.Repeat("é", 128)+"x", api.ErrLong)
	same(t, "behind", d, p)
}

// P9.2: which error comes first.
func TestOrderOfErrors(t *testing.T) {
	long := strings.Repeat("x", api.BlockBytes+1)
	d := made(t, 2)
	write(t, d, 2, long, api.ErrArg)
	write(t, d, -1, long, api.ErrArg)
	d.Cut(0)
	write(t, d, 2, long, api.ErrArg)
	write(t, d, -1, long, api.ErrArg)
	write(t, d, 2, "a", api.ErrArg)
	write(t, d, 1, long, api.ErrLong)
	write(t, d, 1, long[1:], api.ErrPower)
	write(t, d, 1, "", api.ErrPower)
	same(t, "behind", d, &plain{blocks: 2})
}

// P9.3
func TestCut(t *testing.T) {
	for _, n := range []int{0, 1, 2, 7} {
		d := made(t, 1)
		write(t, d, 0, "ahead", api.OK)
		d.Cut(n)
		for i := range 12 {
			want := api.OK
			if i >= n {
				want = api.ErrPower
			}
			write(t, d, 0, strconv.Itoa(i), want)
		}
		if d.Writes() != n+1 {
			t.Errorf("Cut %d: %d raw writes", n, d.Writes())
		}
	}
	for _, n := range []int{-1, -2, math.MinInt, math.MaxInt, 1 << 32, 1 << 31, 1 << 8, 1 << 16} {
		d := made(t, 1)
		d.Cut(n)
		for range 20 {
			write(t, d, 0, "x", api.OK)
		}
	}
}

// P9.3: what an earlier Cut said counts no more.
func TestCutBehindCut(t *testing.T) {
	for _, first := range []int{-1, 0, 1, 2, 5} {
		for _, used := range []int{0, 1, 2, 3} {
			for _, second := range []int{-1, 0, 1, 2, 5} {
				d := made(t, 1)
				p := &plain{blocks: 1, left: first}
				d.Cut(first)
				for range used {
					write(t, d, 0, "a", p.write(0, "a"))
				}
				d.Cut(second)
				p.left = second
				for range 7 {
					write(t, d, 0, "b", p.write(0, "b"))
				}
				same(t, "behind", d, p)
			}
		}
	}
}

// P9.3: Cut of less than 0 is Restore, ahead of the power's failing and behind it.
func TestRestore(t *testing.T) {
	backs := map[string]func(d *Disk){
		"Restore": (*Disk).Restore,
		"Cut -1":  func(d *Disk) { d.Cut(-1) },
		"Cut min": func(d *Disk) { d.Cut(math.MinInt) },
	}
	for what, back := range backs {
		t.Run(what, func(t *testing.T) {
			for used := range 5 {
				d := made(t, 1)
				d.Cut(3)
				for range used {
					d.Write(0, "a")
				}
				back(d)
				for range 9 {
					write(t, d, 0, "b", api.OK)
				}
				if want := min(used, 3) + 9; d.Writes() != want {
					t.Errorf("%d used: %d raw writes, want %d", used, d.Writes(), want)
				}
			}
			d := made(t, 1)
			back(d)
			write(t, d, 0, "c", api.OK)
		})
	}
}

// P9.3: what is refused is no raw write, and is not counted.
func TestRefusedIsNotCounted(t *testing.T) {
	d := made(t, 2)
	d.Cut(2)
	for range 5 {
		write(t, d, 2, "x", api.ErrArg)
		write(t, d, -1, "x", api.ErrArg)
		write(t, d, 0, strings.Repeat("x", 257), api.ErrLong)
	}
	d.Read(0)
	d.Read(9)
	d.Trail()
	d.After(0)
	d.After(9)
	write(t, d, 0, "a", api.OK)
	write(t, d, 1, "b", api.OK)
	for range 3 {
		write(t, d, 0, "c", api.ErrPower)
	}
	same(t, "behind", d, &plain{blocks: 2, made: []api.Raw{{Block: 0, Text: "a"}, {Block: 1, Text: "b"}}})
}

// P9.2, P9.4, P9.5: what is on the disk may be asked with the power off.
func TestPowerOff(t *testing.T) {
	d := made(t, 2)
	p := &plain{blocks: 2, left: -1}
	for i, s := range []string{"a", "b", "c"} {
		write(t, d, i%2, s, p.write(i%2, s))
	}
	d.Cut(0)
	same(t, "the power is off", d, p)
	for n := range 4 {
		o := behind(t, d, n)
		q := p.after(n)
		same(t, "After "+strconv.Itoa(n), o, q)
		write(t, o, 0, "on", q.write(0, "on"))
		same(t, "written on", o, q)
	}
	write(t, d, 0, "off", api.ErrPower)
	same(t, "still off", d, p)
}

// P9.4: all raw writes, also one that gives a block the text that it has.
func TestTrail(t *testing.T) {
	d := made(t, 3)
	if d.Writes() != 0 || len(d.Trail()) != 0 {
		t.Errorf("at first: %d, %+v", d.Writes(), d.Trail())
	}
	want := []api.Raw{}
	for n, r := range []api.Raw{{Block: 2, Text: "a"}, {Block: 2, Text: "a"}, {Block: 0, Text: ""}, {Block: 1, Text: "a"}, {Block: 0, Text: "b"}, {Block: 2, Text: ""}} {
		write(t, d, r.Block, r.Text, api.OK)
		want = append(want, r)
		if d.Writes() != n+1 {
			t.Errorf("Writes: %d, want %d", d.Writes(), n+1)
		}
		if got := d.Trail(); !slices.Equal(got, want) {
			t.Errorf("Trail: %+v, want %+v", got, want)
		}
	}
}

// P9.5
func TestAfter(t *testing.T) {
	d := made(t, 3)
	p := &plain{blocks: 3, left: -1}
	for n := range 9 {
		s := strings.Repeat("x", n)
		write(t, d, n*n%3, s, p.write(n*n%3, s))
	}
	for n := 0; n <= 9; n++ {
		same(t, "After "+strconv.Itoa(n), behind(t, d, n), p.after(n))
	}
	for _, n := range []int{math.MinInt, -1, 10, 11, 1 << 32, math.MaxInt} {
		o, err := d.After(n)
		tells(t, "After "+strconv.Itoa(n), err, api.ErrArg)
		if o != nil {
			t.Errorf("After %d: a disk beside its error", n)
		}
	}
	same(t, "behind", d, p)
}

// P9.5: of a disk that nothing was written on.
func TestAfterNothing(t *testing.T) {
	d := made(t, 4096)
	o := behind(t, d, 0)
	same(t, "After 0", o, &plain{blocks: 4096})
	_, err := d.After(1)
	tells(t, "After 1", err, api.ErrArg)
	_, err = d.After(-1)
	tells(t, "After -1", err, api.ErrArg)
}

// P9.5: its power is on and isn't going to fail, whatever that of the other one is; nor does the one's Cut reach the other.
func TestAfterHasItsOwnPower(t *testing.T) {
	for _, n := range []int{0, 1, 3} {
		d := made(t, 1)
		write(t, d, 0, "a", api.OK)
		d.Cut(n)
		o := behind(t, d, 1)
		for range 8 {
			write(t, o, 0, "o", api.OK)
		}
		o.Cut(0)
		write(t, o, 0, "o", api.ErrPower)
		for range n {
			write(t, d, 0, "d", api.OK)
		}
		write(t, d, 0, "d", api.ErrPower)
		d.Restore()
		write(t, d, 0, "d", api.OK)
		write(t, o, 0, "o", api.ErrPower)
	}
}

// P9.5, P9.6: the two are written on apart, both ways, also from one After to another of the same n.
func TestWrittenOnApart(t *testing.T) {
	d := made(t, 2)
	p := &plain{blocks: 2, left: -1}
	for range 5 {
		write(t, d, 0, "a", p.write(0, "a"))
	}
	for n := range 6 {
		o, o2 := behind(t, d, n), behind(t, d, n)
		q, q2 := p.after(n), p.after(n)
		write(t, o, 1, "o", q.write(1, "o"))
		write(t, o2, 1, "o2", q2.write(1, "o2"))
		same(t, "d", d, p)
		same(t, "o", o, q)
		same(t, "o2", o2, q2)
		o3 := behind(t, o, n+1)
		q3 := q.after(n + 1)
		write(t, o3, 0, "o3", q3.write(0, "o3"))
		same(t, "o", o, q)
		same(t, "o3", o3, q3)
	}
	last, at := behind(t, d, d.Writes()), p.after(len(p.made))
	write(t, d, 1, "on", p.write(1, "on"))
	write(t, d, 0, "on", p.write(0, "on"))
	same(t, "the disk of ahead", last, at)
	same(t, "d", d, p)
}

// P9.6: a block's text is that of the last raw write of it in the Trail, or empty.
func TestTextIsTheTrails(t *testing.T) {
	d := made(t, 4)
	for n, i := range []int{3, 0, 3, 3, 1, 0} {
		write(t, d, i, strconv.Itoa(n), api.OK)
	}
	for i, want := range []string{"5", "4", "", "3"} {
		read(t, d, i, want)
	}
}

// P9.6: a row of all that may be asked, against the plain disk.
func TestRows(t *testing.T) {
	r := rand.New(rand.NewSource(9))
	for range 300 {
		blocks := 1 + r.Intn(4)
		d := made(t, blocks)
		p := &plain{blocks: blocks, left: -1}
		for range 40 {
			switch n := r.Intn(6); r.Intn(8) {
			case 0:
				d.Cut(n - 1)
				p.left = n - 1
			case 1:
				d.Restore()
				p.left = -1
			case 2:
				if n <= len(p.made) {
					d, p = behind(t, d, n), p.after(n)
				} else {
					_, err := d.After(n)
					tells(t, "After", err, api.ErrArg)
				}
			default:
				s := strings.Repeat(string(rune('a'+r.Intn(26))), r.Intn(300))
				write(t, d, n-1, s, p.write(n-1, s))
			}
			same(t, "a row", d, p)
		}
		if t.Failed() {
			return
		}
	}
}

// P9.7
func TestFirstWritesOfARow(t *testing.T) {
	row := []api.Raw{{Block: 0, Text: "a"}, {Block: 2, Text: ""}, {Block: 1, Text: "b"}, {Block: 0, Text: strings.Repeat("c", 256)}, {Block: 2, Text: "d"}}
	for n := 0; n <= len(row)+1; n++ {
		d := made(t, 3)
		d.Cut(n)
		for i, r := range row {
			want := api.OK
			if i >= n {
				want = api.ErrPower
			}
			write(t, d, r.Block, r.Text, want)
		}
		same(t, "cut behind "+strconv.Itoa(n), d, &plain{blocks: 3, made: row[:min(n, len(row))]})
	}
}

// The chapter's examples.
func TestExamples(t *testing.T) {
	for _, n := range []int{0, 4097} {
		_, err := New(n)
		tells(t, "New", err, api.ErrArg)
	}
	d := made(t, 2)
	if d.Blocks() != 2 {
		t.Errorf("Blocks: %d", d.Blocks())
	}
	read(t, d, 1, "")
	for _, i := range []int{2, -1} {
		_, err := d.Read(i)
		tells(t, "Read", err, api.ErrArg)
	}
	write(t, d, 1, "a", api.OK)
	write(t, d, 2, "a", api.ErrArg)
	write(t, d, 1, strings.Repeat("x", 257), api.ErrLong)
	d.Cut(1)
	write(t, d, 0, "x", api.OK)
	write(t, d, 0, "y", api.ErrPower)
	write(t, d, 5, "y", api.ErrArg)
	read(t, d, 0, "x")
	if d.Writes() != 2 {
		t.Errorf("Writes: %d", d.Writes())
	}
	d.Cut(-1)
	write(t, d, 0, "y", api.OK)
	if got, want := d.Trail(), []api.Raw{{Block: 1, Text: "a"}, {Block: 0, Text: "x"}, {Block: 0, Text: "y"}}; !slices.Equal(got, want) {
		t.Errorf("Trail: %+v, want %+v", got, want)
	}
	o := behind(t, d, 2)
	read(t, o, 0, "x")
	read(t, o, 1, "a")
	_, err := d.After(4)
	tells(t, "After 4", err, api.ErrArg)
}

// R3, R4: a Trail that was handed out turns nothing of the disk, nor the disk it, its spare room included.
func TestTrailIsTheTakers(t *testing.T) {
	d := made(t, 2)
	p := &plain{blocks: 2, left: -1}
	for n := range 11 {
		s := strconv.Itoa(n)
		write(t, d, n%2, s, p.write(n%2, s))
		got, other := d.Trail(), d.Trail()
		for _, list := range [][]api.Raw{got, got[:cap(got)]} {
			for i := range list {
				list[i] = api.Raw{Block: 7, Text: "taken"}
			}
		}
		_ = append(got, api.Raw{Block: 8, Text: "more"})
		same(t, "a Trail was written into", d, p)
		if !slices.Equal(other, p.made) {
			t.Errorf("another Trail: %+v, want %+v", other, p.made)
		}
		if !slices.Equal(behind(t, d, n+1).Trail(), p.made) {
			t.Error("After's Trail was written into")
		}
	}
	early := d.Trail()
	write(t, d, 0, "late", api.OK)
	if !slices.Equal(early, p.made) {
		t.Errorf("a Trail of ahead: %+v, want %+v", early, p.made)
	}
}

// R4: a text that is handed in is not kept, even where its bytes are a slice's that is written into later.
func TestTextIsNotKept(t *testing.T) {
	b := []byte("text")
	d := made(t, 1)
	write(t, d, 0, unsafe.String(unsafe.SliceData(b), len(b)), api.OK)
	copy(b, "XXXX")
	read(t, d, 0, "text")
	if got := d.Trail()[0].Text; got != "text" {
		t.Errorf("Trail: %q", got)
	}
}

// R4: no two answers share a text's memory, nor does one with the disk.
func TestTextsAreNewMemory(t *testing.T) {
	d := made(t, 2)
	write(t, d, 0, "text", api.OK)
	write(t, d, 1, "text", api.OK)
	texts := []string{d.texts[0], d.texts[1]}
	for range 2 {
		s, _ := d.Read(0)
		texts = append(texts, s)
		for _, r := range d.Trail() {
			texts = append(texts, r.Text)
		}
	}
	o := behind(t, d, 2)
	texts = append(texts, o.texts...)
	for i, a := range texts {
		for _, b := range texts[:i] {
			if unsafe.StringData(a) == unsafe.StringData(b) {
				t.Errorf("text %d of %d shares its memory with one ahead of it", i, len(texts))
			}
		}
	}
}

// R5: asking changes no answer, and two disks know nothing of each other.
func TestAskingChangesNothing(t *testing.T) {
	d, o := made(t, 2), made(t, 2)
	p := &plain{blocks: 2, left: -1}
	o.Cut(0)
	write(t, d, 1, "a", p.write(1, "a"))
	for range 3 {
		same(t, "d", d, p)
	}
	write(t, o, 1, "b", api.ErrPower)
	same(t, "o", o, &plain{blocks: 2})
}
