package names

import (
	"slices"
	"strings"
	"testing"

	"lineage/api"
)

// plainName is a name as chapter 1 words it, byte by byte.
func plainName(s string) bool {
	const letters = "abcdefghijklmnopqrstuvwxyz"
	if len(s) < 1 || len(s) > 32 {
		return false
	}
	for i := 0; i < len(s); i++ {
		allowed := letters
		if i > 0 {
			allowed += "0123456789-_"
		}
		if strings.IndexByte(allowed, s[i]) < 0 {
			return false
		}
	}
	return true
}

// plainParts are the parts of a dotted name as chapter 1 words them.
func plainParts(s string) []string {
	pieces := strings.Split(s, ".")
	if len(pieces) > 4 {
		return nil
	}
	for _, p := range pieces {
		if !plainName(p) {
			return nil
		}
	}
	return pieces
}

// plainCompare is P1.4 over lists of pieces.
func plainCompare(a, b string) int {
	return slices.Compare(strings.Split(a, "."), strings.Split(b, "."))
}

// rowsOf are all rows of up to most of the pieces that are handed in.
func rowsOf(most int, pieces ...string) []string {
	all := []string{""}
	last := all
	for range most {
		var next []string
		for _, s := range last {
			for _, p := range pieces {
				next = append(next, s+p)
			}
		}
		all = append(all, next...)
		last = next
	}
	slices.Sort(all)
	return slices.Compact(all)
}

// someTexts are short texts, good and bad, with wrong bytes and halves of runes among them.
func someTexts() []string {
	texts := rowsOf(3, "a", "b", "z", "1", "-", ".", "A", "\x00", "\xc3", "\xa9", "\xff", "�")
	return append(texts, edges()...)
}

// edges are texts about the limits.
func edges() []string {
	long, over := strings.Repeat("a", 32), strings.Repeat("a", 33)
	return []string{
		long, over, strings.Repeat("é", 16), long[:31] + "é", long + ".", "." + long,
		long + "." + long + "." + long + "." + long,
		over + "." + long + "." + long + "." + long,
		long + "." + long + "." + long + "." + over,
		long + "." + long + "." + long + "." + long + ".a",
		"a.b.c.d", "a.b.c.d.", ".a.b.c.d", "a.b.c.d.e", "a.b..d", "a.b.c", "a.b.c.", "...", "....",
		"mail", "mail.read", "mail.read.all", "mailbox", "mail-box", "mail_2", "tv-1", "_a", "-a", "1a", "a b", " a", "a ", "a\n", "a/b", "a:b", "a`b", "a{b", "a@b", "a[b",
	}
}

// dottedNames are dotted names of one to four parts.
func dottedNames() []string {
	var out []string
	for _, s := range append(rowsOf(7, "a", "b", "."), edges()...) {
		if plainParts(s) != nil {
			out = append(out, s)
		}
	}
	return out
}

func count(s string) int { return len(plainParts(s)) }

// P1.1
func TestNameExamples(t *testing.T) {
	for _, c := range []struct {
		s    string
		want bool
	}{
		{"tv-1", true}, {"a", true}, {"z", true}, {"a_b-0-9z", true}, {"a-", true}, {"a_", true},
		{strings.Repeat("a", 31), true}, {strings.Repeat("a", 32), true}, {strings.Repeat("a", 33), false},
		{"", false}, {"1a", false}, {"-a", false}, {"_a", false}, {"A", false}, {"aB", false}, {"a.b", false}, {".", false},
		{"é", false}, {"aé", false}, {"a\xff", false}, {"\xff", false}, {"a\xc3", false}, {"a\x00", false}, {"a�", false},
		{"a b", false}, {"a ", false}, {" a", false}, {strings.Repeat("a", 1<<20), false},
	} {
		if got := Name(c.s); got != c.want {
			t.Errorf("Name(%.40q) = %v", c.s, got)
		}
	}
}

// P1.1: every byte at the first, a middle and the last place of a name.
func TestNameEveryByte(t *testing.T) {
	for b := range 256 {
		one := string([]byte{byte(b)})
		for _, s := range []string{one, one + "a", "a" + one + "a", "a" + one, strings.Repeat("a", 31) + one} {
			if got, want := Name(s), plainName(s); got != want {
				t.Errorf("Name(%q) = %v", s, got)
			}
		}
	}
}

// P1.1: runes whose low bits are those of a letter are none.
func TestNameWideRunes(t *testing.T) {
	for _, r := range []rune{0x161, 0x17a, 0x1061, 0x10061, 0xff41, 0x0660, 0x212a, 0x2d61} {
		for _, s := range []string{string(r), "a" + string(r)} {
			if Name(s) || Dotted(s) {
				t.Errorf("%q is a name", s)
			}
		}
	}
}

// P1.1
func TestDottedExamples(t *testing.T) {
	long := strings.Repeat("a", 32)
	for _, c := range []struct {
		s    string
		want bool
	}{
		{"mail.read", true}, {"a", true}, {"a.b.c.d", true}, {strings.Join([]string{long, long, long, long}, "."), true},
		{"a.", false}, {".a", false}, {"a..b", false}, {"", false}, {".", false}, {"...", false},
		{"a.b.c.d.e", false}, {"a.b.c.d.", false}, {".a.b.c.d", false}, {"a.1", false}, {"a.-b", false}, {"a.B", false},
		{long + "a.b", false}, {"b." + long + "a", false}, {"a.b.c." + long + "a", false},
		{"a.é", false}, {"a\xff.b", false}, {"a.\xffb", false}, {"a.b\xc3", false}, {"a\xc3.b", false},
		{strings.Repeat("a.", 1<<20), false},
	} {
		if got := Dotted(c.s); got != c.want {
			t.Errorf("Dotted(%.40q) = %v", c.s, got)
		}
	}
}

// P1.1, P1.2
func TestNamesAsWorded(t *testing.T) {
	for _, s := range append(someTexts(), dottedNames()...) {
		if got, want := Name(s), plainName(s); got != want {
			t.Errorf("Name(%q) = %v", s, got)
		}
		want := plainParts(s)
		if got := Dotted(s); got != (want != nil) {
			t.Errorf("Dotted(%q) = %v", s, got)
		}
		if got := Parts(s); !slices.Equal(got, want) {
			t.Errorf("Parts(%q) = %q", s, got)
		}
	}
}

// P1.2
func TestPartsExamples(t *testing.T) {
	for _, c := range []struct {
		s    string
		want []string
	}{
		{"a.b.c", []string{"a", "b", "c"}}, {"c.b.a.a", []string{"c", "b", "a", "a"}}, {"mail", []string{"mail"}},
		{"a.", nil}, {".a", nil}, {"a..b", nil}, {"", nil}, {"A", nil}, {"a.b.c.d.e", nil}, {"a.\xff", nil},
	} {
		if got := Parts(c.s); !slices.Equal(got, c.want) {
			t.Errorf("Parts(%q) = %q", c.s, got)
		}
	}
}

// R4: an answer is the caller's own, its spare room too.
func TestPartsAreNewMemory(t *testing.T) {
	first := Parts("a.b.c")
	second := Parts("a.b.c")
	first = first[:cap(first)]
	for i := range first {
		first[i] = "x"
	}
	if !slices.Equal(second, []string{"a", "b", "c"}) || !slices.Equal(Parts("a.b.c"), second) {
		t.Errorf("answers share memory: %q", second)
	}
}

// P1.3
func TestUnderExamples(t *testing.T) {
	for _, c := range []struct {
		s, of string
		want  bool
	}{
		{"mail.read", "mail", true}, {"mail", "mail", true}, {"a.b.c.d", "a.b.c", true}, {"a.b.c.d", "a", true}, {"a.b.c.d", "a.b.c.d", true},
		{"mail", "mail.read", false}, {"mailbox", "mail", false}, {"mail", "mailbox", false}, {"a.bc", "a.b", false}, {"a.b.c", "a.c", false}, {"a.b", "b", false}, {"b.a", "a", false},
		{"", "", false}, {"a", "", false}, {"", "a", false}, {"a.", "a", false}, {"a.", "a.", false}, {"a", "a.", false}, {".a", "", false}, {"A", "A", false}, {"a.B", "a", false},
		{"a.b.c.d.e", "a", false}, {"a.b.c.d.e", "a.b.c.d.e", false}, {"a.b.c.d.e", "a.b.c.d", false}, {"a.\xff", "a", false}, {"\xff", "\xff", false},
	} {
		if got := Under(c.s, c.of); got != c.want {
			t.Errorf("Under(%q, %q) = %v", c.s, c.of, got)
		}
	}
}

// P1.3
func TestUnderAsWorded(t *testing.T) {
	texts := append(edges(), rowsOf(5, "a", "b", ".")...)
	for _, s := range texts {
		p := plainParts(s)
		for _, of := range texts {
			q := plainParts(of)
			want := len(q) > 0 && len(q) <= len(p) && slices.Equal(p[:len(q)], q)
			if got := Under(s, of); got != want {
				t.Errorf("Under(%q, %q) = %v", s, of, got)
			}
		}
	}
}

// P1.4
func TestCompareExamples(t *testing.T) {
	for _, c := range []struct {
		a, b string
		want int
	}{
		{"a.b", "a-b", -1}, {"a-b", "a.b", 1}, {"a", "a.b", -1}, {"a.b", "a", 1}, {"a.b", "a.b", 0}, {"a.c", "a.b.z", 1}, {"", ".", -1}, {".", "", 1}, {"", "", 0}, {".", ".", 0}, {"..", ".", 1},
		{"a", "b", -1}, {"a", "ab", -1}, {"ab", "a.b", 1}, {"a.", "a", 1}, {"a.", "a.b", -1}, {".b", "a", -1}, {"A", "a", -1}, {"10", "9", -1},
		{"a\x00", "a.b", 1}, {"a\x00", "a", 1}, {"\x00", ".", 1}, {"a!", "a.z", 1}, {"a-", "a/", -1},
		{"\xfe", "\xff", -1}, {"\xff", "\xfe", 1}, {"\xff", "�", 1}, {"\x80", "�", -1}, {"\xff.a", "\xff.b", -1}, {"\xc3.a", "\xc3\xa9", -1}, {"é", "z", 1}, {"a.b.c.d.e.f", "a.b.c.d.e.g", -1},
		{strings.Repeat(".", 1<<16), strings.Repeat(".", 1<<16+1), -1},
	} {
		if got := Compare(c.a, c.b); got != c.want {
			t.Errorf("Compare(%.40q, %.40q) = %d", c.a, c.b, got)
		}
	}
}

// P1.4
func TestCompareAsWorded(t *testing.T) {
	texts := append(edges(), rowsOf(4, "a", "\x00", ".", "-", "\xff")...)
	for _, a := range texts {
		for _, b := range texts {
			if got, want := Compare(a, b), plainCompare(a, b); got != want {
				t.Fatalf("Compare(%q, %q) = %d", a, b, got)
			}
		}
	}
}

// P1.5
func TestNamesAreDotted(t *testing.T) {
	for _, s := range someTexts() {
		if Name(s) && (!Dotted(s) || !slices.Equal(Parts(s), []string{s})) {
			t.Errorf("the name %q is no dotted name of one part", s)
		}
		if Dotted(s) && strings.Join(Parts(s), ".") != s {
			t.Errorf("the parts of %q are %q", s, Parts(s))
		}
		if Name(s) != (len(Parts(s)) == 1) {
			t.Errorf("%q: a name, or one part, but not both", s)
		}
	}
}

// P1.5
func TestJoinedDotted(t *testing.T) {
	all := dottedNames()
	for _, a := range all {
		for _, b := range all {
			s := a + "." + b
			fits := count(a)+count(b) <= api.MaxParts
			if Dotted(s) != fits || Under(s, a) != fits {
				t.Fatalf("%q: Dotted %v, Under %v", s, Dotted(s), Under(s, a))
			}
			if fits && !slices.Equal(Parts(s), append(Parts(a), Parts(b)...)) {
				t.Fatalf("Parts(%q) = %q", s, Parts(s))
			}
		}
	}
}

// P1.6
func TestUnderIsAnOrder(t *testing.T) {
	all := slices.DeleteFunc(dottedNames(), func(s string) bool { return len(s) > 5 })
	for _, a := range all {
		if !Under(a, a) {
			t.Errorf("%q stands not under itself", a)
		}
		for _, b := range all {
			if !Under(a, b) {
				continue
			}
			if Under(b, a) && a != b {
				t.Errorf("%q and %q stand under each other", a, b)
			}
			for _, c := range all {
				if Under(b, c) && !Under(a, c) {
					t.Errorf("%q under %q under %q", a, b, c)
				}
			}
		}
	}
}

// P1.7: a row in which each text is ahead of every later one, and turned about behind it, is all that an order promises.
func TestCompareIsAnOrder(t *testing.T) {
	texts := someTexts()
	slices.SortFunc(texts, Compare)
	texts = slices.Compact(texts)
	for i, a := range texts {
		if c := Compare(a, strings.Clone(a)); c != 0 {
			t.Fatalf("Compare(%q, %q) = %d", a, a, c)
		}
		for _, b := range texts[i+1:] {
			if Compare(a, b) != -1 || Compare(b, a) != 1 {
				t.Fatalf("%q and %q: %d, %d", a, b, Compare(a, b), Compare(b, a))
			}
		}
	}
}

// P1.7
func TestUnderIsNotAhead(t *testing.T) {
	all := append(dottedNames(), "mail-box", "mail.a", "a-b", "a-b.c", "a0", "a_")
	for _, s := range all {
		for _, of := range all {
			if Under(s, of) && Compare(s, of) < 0 {
				t.Errorf("%q stands under %q, and is ahead of it", s, of)
			}
		}
	}
}
