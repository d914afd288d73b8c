package scope

import (
	"errors"
	"math"
	"slices"
	"strconv"
	"strings"
	"testing"

	"lineage/api"
)

// full is the set of all bits.
const full = api.Set(math.MaxUint64)

// example are the scopes of the chapter's examples.
func example() []string { return []string{"mail", "mail.read", "mail.send", "files"} }

// nested are scopes of all depths, not in the order of their names, some below names that are no scopes.
func nested() []string {
	return []string{"mail.read.all", "mailbox", "mail", "a.b.c.d", "mail.read", "a.b.c", "z", "mail-box.x", "a.bc", "mail_.y", "mailbox.mail", "a.b.x.y"}
}

// numbered are n scopes, half of them below one name.
func numbered(n int) []string {
	var l []string
	for i := range n {
		if i%2 == 0 {
			l = append(l, "n"+strconv.Itoa(i))
		} else {
			l = append(l, "odd.n"+strconv.Itoa(i))
		}
	}
	return l
}

// longest are n scopes with names as long as may be, 131 bytes each.
func longest(n int) []string {
	part := strings.Repeat("a", 32)
	var l []string
	for i := range n {
		l = append(l, part+"."+part+"."+part+"."+strings.Repeat("b", 30)+string([]byte{'a' + byte(i/8), 'a' + byte(i%8)}))
	}
	return l
}

// someLists are lists of which books are made.
func someLists() [][]string {
	return [][]string{nil, {"a"}, {"b.c"}, example(), nested(), numbered(63), numbered(64), longest(31), longest(64)}
}

// made is the book of a list that makes one.
func made(t *testing.T, l []string) *Book {
	t.Helper()
	b, err := New(l)
	if b == nil || err != nil {
		t.Fatalf("New(%q) = %v, %v", l, b, err)
	}
	return b
}

// tells checks an error's number, against all numbers, and its place; at below 0: no place.
func tells(t *testing.T, what string, err error, no api.Errno, at int) {
	t.Helper()
	for n := api.OK; n <= api.ErrState+1; n++ {
		if errors.Is(err, n) != (n == no) {
			t.Errorf("%.80q: errors.Is(%v, %d): want just %d", what, err, n, no)
		}
	}
	var f api.Fault
	if found := errors.As(err, &f); found != (at >= 0) || found && f != (api.Fault{No: no, At: at}) {
		t.Errorf("%.80q: place %v %+v: want %d at %d", what, found, f, no, at)
	}
}

// plainDotted is a dotted name as chapter 1 words it, byte by byte.
func plainDotted(s string) bool {
	pieces := strings.Split(s, ".")
	if len(pieces) > 4 {
		return false
	}
	for _, p := range pieces {
		if len(p) < 1 || len(p) > 32 || strings.Trim(p, "abcdefghijklmnopqrstuvwxyz0123456789-_") != "" || p[0] < 'a' || p[0] > 'z' {
			return false
		}
	}
	return true
}

// plainWord is the set that a word stands for as P3.3 words it, scope by scope.
func plainWord(l []string, word string) (api.Set, api.Errno) {
	var in func(name string) bool
	switch {
	case word == "*":
		in = func(string) bool { return true }
	case plainDotted(word):
		in = func(name string) bool { return name == word }
	case len(word) > 2 && word[len(word)-2:] == ".*" && plainDotted(word[:len(word)-2]):
		in = func(name string) bool { return strings.HasPrefix(name, word[:len(word)-1]) }
	default:
		return 0, api.ErrForm
	}
	var s, worth api.Set = 0, 1
	for _, name := range l {
		if in(name) {
			s += worth
		}
		worth *= 2
	}
	if s == 0 && word != "*" {
		return 0, api.ErrNone
	}
	return s, api.OK
}

// plainParse is P3.3, byte by byte.
func plainParse(l []string, text string) (api.Set, api.Errno, int) {
	if len(text) > 4096 {
		return 0, api.ErrLong, -1
	}
	var s api.Set
	for from := 0; from < len(text); from++ {
		if text[from] == 0x20 {
			continue
		}
		end := from
		for end < len(text) && text[end] != 0x20 {
			end++
		}
		meant, no := plainWord(l, text[from:end])
		if no != api.OK {
			return 0, no, from
		}
		s |= meant
		from = end
	}
	return s, api.OK, -1
}

// checkParse holds what is read of a text against the plain one.
func checkParse(t *testing.T, l []string, b *Book, text string) {
	t.Helper()
	want, no, at := plainParse(l, text)
	got, err := b.Parse(text)
	if got != want {
		t.Errorf("Parse(%.80q) = %x, want %x", text, got, want)
	}
	if no != api.OK {
		tells(t, text, err, no, at)
	} else if err != nil {
		t.Errorf("Parse(%.80q): %v", text, err)
	}
}

// someWords are words, good and wrong, for the books of someLists.
func someWords() []string {
	l := []string{"*", "a", "a.*", "b.c", "b.*", "b.c.*", "a.b.*", "a.b.c.*", "a.b.c.d.*", "a.b.x", "odd.*", "n0", "n62", "odd.n63", "pay", "files.*", "mail_.*", "mail-box.*", "mailbo.*",
		".*", "**", "*.*", "a*", "a.**", "a.*.*", "a.*b", "*.a", "a..*", "a.", ".a", ".", "A", "A.*", "a.b.c.d.e", "a.b.c.d.e.*", "a.b.c.d.e.f.*", "1", "é", "a\xff", "\xff", "\xa0", "\u00a0", "a\t*", "\n", "a\n", "\x00", "mail,files", "a.*,"}
	l = append(l, example()...)
	l = append(l, nested()...)
	for _, s := range []string{strings.Repeat("a", 32), strings.Repeat("a", 33), longest(1)[0], longest(1)[0] + "b"} {
		l = append(l, s, s+".*")
	}
	for _, s := range example() {
		l = append(l, s+".*", s+"*", s+".", s+".**", "*"+s, strings.ToUpper(s))
	}
	return l
}

// someTexts are rows of up to three words with blanks about them, and rows of words without a rule.
func someTexts() []string {
	l := []string{"", " ", "    "}
	words := someWords()
	for _, v := range words {
		l = append(l, v, " "+v, v+" ", "   "+v+"  ")
		for _, w := range words {
			l = append(l, v+" "+w, "mail  "+v+"   "+w+" ")
		}
	}
	x := uint64(88172645463325252)
	next := func(n int) int {
		x ^= x << 13
		x ^= x >> 7
		x ^= x << 17
		return int(x % uint64(n))
	}
	for range 500 {
		text := strings.Repeat(" ", next(3))
		for range next(12) {
			text += words[next(len(words))] + strings.Repeat(" ", 1+next(3))
		}
		l = append(l, text)
	}
	return l
}

// someSets are sets of the bits below n, the empty one and that of all among them.
func someSets(n int) []api.Set {
	all := full
	if n < 64 {
		all = 1<<n - 1
	}
	l := []api.Set{0, all, all / 3, all / 3 * 2, all >> 1, all &^ 1}
	for i := range n {
		l = append(l, 1<<i, all&^(1<<i))
	}
	x := uint64(1234567)
	for range 50 {
		x ^= x << 13
		x ^= x >> 7
		x ^= x << 17
		l = append(l, api.Set(x)&all)
	}
	return l
}

// P3.1, P3.2
func TestNew(t *testing.T) {
	for _, l := range append(someLists(), []string{}, []string{"a", "a.b", "a-b", "ab", "b", "b.a"}, []string{"a.b.c.d", "a.b.c", "a.b", "a"}) {
		b := made(t, l)
		if got := b.Names(); !slices.Equal(got, l) {
			t.Errorf("Names = %q, want %q", got, l)
		}
	}
	var want, worth api.Set = 0, 1
	for n := range 65 {
		if got := made(t, numbered(n)).All(); got != want {
			t.Errorf("All of %d scopes = %x", n, got)
		}
		want += worth
		worth *= 2
	}
}

// P3.1: the first name that is wrong is told, at its index.
func TestNewWrong(t *testing.T) {
	long := strings.Repeat("a", 33)
	type wrong struct {
		l  []string
		no api.Errno
		at int
	}
	cases := []wrong{
		{[]string{"mail", "mail"}, api.ErrTwice, 1}, {[]string{"mail", "a."}, api.ErrName, 1}, {[]string{"a", "b", "a", "b"}, api.ErrTwice, 2}, {[]string{"a.b", "a", "a.b"}, api.ErrTwice, 2},
		{[]string{"a", "a", "."}, api.ErrTwice, 1}, {[]string{"a", ".", "a"}, api.ErrName, 1}, {[]string{".", "."}, api.ErrName, 0}, {[]string{"a", "B", "B"}, api.ErrName, 1},
	}
	for _, s := range []string{"", " ", "*", "a.*", "a ", " a", "A", "1", "-a", ".a", "a..b", "a.b.c.d.e", "é", "a\xff", "a\x00", long, "a." + long, longest(1)[0] + "b"} {
		cases = append(cases, wrong{[]string{s}, api.ErrName, 0}, wrong{[]string{"a", "b.c", s, "a"}, api.ErrName, 2}, wrong{append(numbered(63), s), api.ErrName, 63})
	}
	for i := range 63 {
		l := numbered(63)
		cases = append(cases, wrong{append(l, l[i]), api.ErrTwice, 63})
	}
	for _, c := range cases {
		b, err := New(c.l)
		if b != nil {
			t.Errorf("New(%q): a book beside an error", c.l)
		}
		tells(t, strings.Join(c.l, ","), err, c.no, c.at)
	}
}

// P3.1: that there are too many is told ahead of what is wrong with a name.
func TestNewMany(t *testing.T) {
	for _, l := range [][]string{numbered(65), numbered(66), numbered(1000), make([]string, 65), make([]string, 1<<16), append([]string{"."}, numbered(64)...), append(numbered(64), "n0"), append(numbered(64), ".")} {
		b, err := New(l)
		if b != nil {
			t.Error("a book of", len(l), "scopes")
		}
		tells(t, strconv.Itoa(len(l)), err, api.ErrMany, -1)
	}
}

// R3, R4: the list is neither changed nor kept, and what lies behind its length is not read.
func TestNewLeavesTheList(t *testing.T) {
	l := append(example(), "mail", ".")
	b := made(t, l[:4])
	if !slices.Equal(l, append(example(), "mail", ".")) {
		t.Errorf("the list was changed: %q", l)
	}
	for i := range l {
		l[i] = "pay"
	}
	if got := b.Names(); !slices.Equal(got, example()) {
		t.Errorf("Names = %q behind a change of the list", got)
	}
	checkParse(t, example(), b, "mail")
	checkParse(t, example(), b, "pay")
	if got, err := b.Print(15); got != strings.Join(example(), " ") || err != nil {
		t.Errorf("Print = %q, %v behind a change of the list", got, err)
	}
}

// P3.2, R4: what Names answers is the caller's own, its spare room too; one book knows nothing of another.
func TestNamesAreNewMemory(t *testing.T) {
	b, other := made(t, example()), made(t, nested())
	first, second := b.Names(), b.Names()
	first = first[:cap(first)]
	for i := range first {
		first[i] = "x"
	}
	if !slices.Equal(second, example()) || !slices.Equal(b.Names(), example()) || !slices.Equal(other.Names(), nested()) {
		t.Errorf("answers share memory: %q, %q, %q", second, b.Names(), other.Names())
	}
}

// P3.3
func TestParseExamples(t *testing.T) {
	b := made(t, example())
	for _, c := range []struct {
		text string
		want api.Set
	}{
		{"mail.read  files", 10}, {"mail.*", 6}, {"*", 15}, {"", 0}, {"mail mail", 1}, {" ", 0}, {strings.Repeat(" ", 4096), 0},
		{"files mail", 9}, {"mail mail.*", 7}, {"* mail", 15}, {"files *", 15}, {"  mail.send ", 4}, {"mail.* mail.read", 6},
	} {
		if got, err := b.Parse(c.text); got != c.want || err != nil {
			t.Errorf("Parse(%.40q) = %d, %v", c.text, got, err)
		}
	}
}

// P3.3: the first word that is wrong is told, at the index of its first byte.
func TestParseWrong(t *testing.T) {
	b := made(t, example())
	for _, c := range []struct {
		text string
		no   api.Errno
		at   int
	}{
		{"pay", api.ErrNone, 0}, {" pay", api.ErrNone, 1}, {"files.*", api.ErrNone, 0}, {"mail.*.*", api.ErrForm, 0}, {"Mail", api.ErrForm, 0}, {"mail .*", api.ErrForm, 5},
		{"mail.read.*", api.ErrNone, 0}, {"pay.*", api.ErrNone, 0}, {"mai", api.ErrNone, 0}, {"mai.*", api.ErrNone, 0}, {"mail.reads", api.ErrNone, 0}, {"a.b.c.d.*", api.ErrNone, 0}, {"a.b.c.d.e.*", api.ErrForm, 0},
		{"**", api.ErrForm, 0}, {"*.*", api.ErrForm, 0}, {"mail*", api.ErrForm, 0}, {"*mail", api.ErrForm, 0}, {"mail.", api.ErrForm, 0}, {"mail..*", api.ErrForm, 0}, {".", api.ErrForm, 0},
		{"mail\tfiles", api.ErrForm, 0}, {"mail\nfiles", api.ErrForm, 0}, {"mail\u00a0files", api.ErrForm, 0}, {"mail \tfiles", api.ErrForm, 5}, {"\x00", api.ErrForm, 0}, {"\xff", api.ErrForm, 0},
		{"pay Mail", api.ErrNone, 0}, {"Mail pay", api.ErrForm, 0}, {"mail   pay Mail", api.ErrNone, 7}, {"* mail.* Mail pay", api.ErrForm, 9}, {"mail mail pay pay", api.ErrNone, 10},
	} {
		got, err := b.Parse(c.text)
		if got != 0 {
			t.Errorf("Parse(%q) = %x beside an error", c.text, got)
		}
		tells(t, c.text, err, c.no, c.at)
	}
}

// P3.3: what is below a name needn't have a scope above it, and isn't what begins alike.
func TestParseBelow(t *testing.T) {
	b := made(t, []string{"a.b.c.d", "ab.c", "a.b.c", "a-b.c", "a.x", "a", "a_", "b.a.c"})
	for _, c := range []struct {
		text string
		want api.Set
	}{{"a.*", 1 | 4 | 16}, {"a.b.*", 1 | 4}, {"a.b.c.*", 1}, {"ab.*", 2}, {"a-b.*", 8}, {"b.*", 128}, {"b.a.*", 128}, {"a a.*", 1 | 4 | 16 | 32}} {
		if got, err := b.Parse(c.text); got != c.want || err != nil {
			t.Errorf("Parse(%q) = %b, %v", c.text, got, err)
		}
	}
	for _, text := range []string{"a.b.c.d.*", "a.x.*", "a_.*", "c.*", "a.b", "b", "b.a", "ab"} {
		_, err := b.Parse(text)
		tells(t, text, err, api.ErrNone, 0)
	}
}

// P3.3: of a book without scopes.
func TestParseEmptyBook(t *testing.T) {
	b := made(t, nil)
	for _, text := range []string{"", " ", "*", " * *"} {
		if got, err := b.Parse(text); got != 0 || err != nil {
			t.Errorf("Parse(%q) = %x, %v", text, got, err)
		}
	}
	_, err := b.Parse("* a")
	tells(t, "* a", err, api.ErrNone, 2)
	_, err = b.Parse("* a.*")
	tells(t, "* a.*", err, api.ErrNone, 2)
	_, err = b.Parse("  .*")
	tells(t, "  .*", err, api.ErrForm, 2)
}

// P3.3: a text of the greatest length is read, of one byte more it is ErrLong, whatever it says.
func TestParseLong(t *testing.T) {
	b := made(t, example())
	for _, c := range []struct {
		text string
		want api.Set
	}{{strings.Repeat(" ", 4096), 0}, {strings.Repeat("* ", 2048), 15}, {strings.Repeat("mail.*  ", 512), 6}, {strings.Repeat(" ", 4091) + "files", 8}, {"files" + strings.Repeat(" ", 4091), 8}} {
		if got, err := b.Parse(c.text); len(c.text) != 4096 || got != c.want || err != nil {
			t.Errorf("Parse of %d bytes %.20q = %x, %v", len(c.text), c.text, got, err)
		}
		for _, over := range []string{c.text + " ", " " + c.text, c.text + "*", "Mail" + c.text, c.text + c.text} {
			got, err := b.Parse(over)
			if got != 0 {
				t.Errorf("Parse of %d bytes = %x beside an error", len(over), got)
			}
			tells(t, over, err, api.ErrLong, -1)
		}
	}
	wrong := strings.Repeat("a", 4096)
	_, err := b.Parse(wrong)
	tells(t, wrong, err, api.ErrForm, 0)
	_, err = b.Parse(wrong + "a")
	tells(t, wrong, err, api.ErrLong, -1)
	last := strings.Repeat(" ", 4095) + "a"
	_, err = b.Parse(last)
	tells(t, last, err, api.ErrNone, 4095)
}

// P3.3: every byte alone, inside, ahead of and behind words.
func TestParseEveryByte(t *testing.T) {
	b := made(t, example())
	for i := range 256 {
		one := string([]byte{byte(i)})
		for _, text := range []string{one, one + "mail", "mail" + one, "mail" + one + "files", "files " + one, "mail.*" + one, "mail." + one, "mail" + one + "*", one + "*", "*" + one} {
			checkParse(t, example(), b, text)
		}
	}
}

// P3.3
func TestParseAsWorded(t *testing.T) {
	texts := someTexts()
	for _, l := range someLists() {
		b := made(t, l)
		for _, text := range texts {
			checkParse(t, l, b, text)
		}
	}
}

// P3.4
func TestPrint(t *testing.T) {
	for _, l := range someLists() {
		b := made(t, l)
		for _, s := range someSets(len(l)) {
			var want []string
			for i, name := range l {
				if s>>i%2 == 1 {
					want = append(want, name)
				}
			}
			if got, err := b.Print(s); got != strings.Join(want, " ") || err != nil {
				t.Errorf("Print(%x) = %q, %v", s, got, err)
			}
		}
	}
}

// P3.4: a bit that is no scope's.
func TestPrintWrong(t *testing.T) {
	for _, l := range someLists() {
		b := made(t, l)
		for i := len(l); i < 64; i++ {
			for _, s := range []api.Set{1 << i, 1<<i | 1, 1<<i | b.All(), full, full << i} {
				got, err := b.Print(s)
				if got != "" {
					t.Errorf("Print(%x) = %q beside an error", s, got)
				}
				tells(t, strconv.FormatUint(uint64(s), 16), err, api.ErrScope, -1)
			}
		}
	}
	if got, err := made(t, nil).Print(0); got != "" || err != nil {
		t.Errorf("Print of the empty set without scopes = %q, %v", got, err)
	}
}

// P3.5: as far as what is printed isn't longer than what may be read.
func TestPrintedIsRead(t *testing.T) {
	for _, l := range someLists() {
		b := made(t, l)
		for _, s := range someSets(len(l)) {
			text, err := b.Print(s)
			if err != nil {
				t.Errorf("Print(%x): %v", s, err)
			}
			got, err := b.Parse(text)
			if len(text) > 4096 {
				tells(t, text, err, api.ErrLong, -1)
			} else if got != s || err != nil {
				t.Errorf("Parse of Print(%x) = %x, %v", s, got, err)
			}
		}
	}
}

// P3.5
func TestReadIsPrinted(t *testing.T) {
	texts := someTexts()
	for _, l := range [][]string{nil, example(), nested(), numbered(64)} {
		b := made(t, l)
		for _, text := range texts {
			s, err := b.Parse(text)
			if err != nil {
				continue
			}
			form, err := b.Print(s)
			again, err2 := b.Parse(form)
			same, err3 := b.Print(again)
			if again != s || same != form || err != nil || err2 != nil || err3 != nil {
				t.Errorf("%q: %x is printed as %q, and that is read as %x", text, s, form, again)
			}
		}
	}
}

// P3.6: two texts with a blank between.
func TestTwoTexts(t *testing.T) {
	texts := append(someWords(), "", " ", "mail pay", "  files", "mail ", "pay  Mail", " Mail pay ", "* mail.*")
	for _, l := range [][]string{nil, example(), nested()} {
		b := made(t, l)
		for _, v := range texts {
			for _, w := range texts {
				checkTwoTexts(t, b, v, w)
			}
		}
	}
}

func checkTwoTexts(t *testing.T, b *Book, v, w string) {
	t.Helper()
	s, err := b.Parse(v + " " + w)
	sv, errV := b.Parse(v)
	sw, errW := b.Parse(w)
	var f api.Fault
	switch {
	case errV != nil:
		if err != errV || s != 0 {
			t.Errorf("%q and %q: %x, %v; want the first one's error", v, w, s, err)
		}
	case errors.As(errW, &f):
		f.At += len(v) + 1
		if err != f || s != 0 {
			t.Errorf("%q and %q: %x, %v; want the second one's error", v, w, s, err)
		}
	case s != sv|sw || err != nil:
		t.Errorf("%q and %q: %x, %v; want %x", v, w, s, err, sv|sw)
	}
}

// P3.6: all scopes by one word, and each scope by every name above it.
func TestStars(t *testing.T) {
	for _, l := range someLists() {
		b := made(t, l)
		if s, err := b.Parse("*"); s != b.All() || err != nil {
			t.Errorf("Parse of * = %x, %v; All is %x", s, err, b.All())
		}
		for _, name := range l {
			one, err := b.Parse(name)
			for at, c := range name {
				if c != '.' {
					continue
				}
				s, err2 := b.Parse(name[:at] + ".*")
				if one&^s != 0 || one == 0 || err != nil || err2 != nil {
					t.Errorf("%q is not in %q", name, name[:at]+".*")
				}
			}
		}
	}
}

// R5: a book answers the same, however often and in whatever order it is asked.
func TestAskedAgain(t *testing.T) {
	b, again := made(t, nested()), made(t, nested())
	for _, text := range []string{"mail.*", "pay", "a.* z", "*", "Mail", "mail.*"} {
		s, err := b.Parse(text)
		b.Print(full)
		b.Print(s)
		b.Names()
		s2, err2 := b.Parse(text)
		s3, err3 := again.Parse(text)
		if s != s2 || s != s3 || err != err2 || err != err3 || b.All() != again.All() {
			t.Errorf("Parse(%q) = %x, %x, %x; %v, %v, %v", text, s, s2, s3, err, err2, err3)
		}
	}
}
