package token

import (
	"errors"
	"math"
	"math/big"
	"math/rand"
	"slices"
	"strings"
	"testing"
	"unsafe"

	"lineage/api"
)

// tells checks an error's number, against all numbers; no error of this layer has a place.
func tells(t *testing.T, what string, err error, no api.Errno) {
	t.Helper()
	for n := api.OK; n <= api.ErrState+1; n++ {
		want := n == no && no != api.OK
		if errors.Is(err, n) != want {
			t.Errorf("%q: errors.Is(%v, %d): want just %d", what, err, n, no)
		}
	}
	if no == api.OK && err != nil {
		t.Errorf("%q: %v: want no error", what, err)
	}
	var f api.Fault
	if errors.As(err, &f) {
		t.Errorf("%q: a place %+v: want none", what, f)
	}
}

// The plain form: one number of 100 bits, and its digits to the base 32.

const plainLetters = "abcdefghijklmnopqrstuvwxyz234567"

func plainMayBe(slot, birth int) bool {
	return slot >= 0 && slot <= 31 && birth >= 1 && birth <= 1048576
}

// plainForm is that of every token whose numbers have at most 8, 24 and 64 bits.
func plainForm(x api.Token) string {
	n := big.NewInt(int64(x.Slot))
	n.Add(n.Lsh(n, 24), big.NewInt(int64(x.Birth)))
	n.Add(n.Lsh(n, 64), new(big.Int).SetUint64(x.Tag))
	return "t" + plainDigits(n.Lsh(n, 4))
}

func plainDigits(n *big.Int) string {
	s := ""
	n = new(big.Int).Set(n)
	digit := new(big.Int)
	for range 20 {
		n.DivMod(n, big.NewInt(32), digit)
		s = plainLetters[digit.Int64():digit.Int64()+1] + s
	}
	return s
}

func plainParse(s string) (api.Token, api.Errno) {
	if len(s) < 21 {
		return api.Token{}, api.ErrShort
	}
	if len(s) > 21 {
		return api.Token{}, api.ErrLong
	}
	n := new(big.Int)
	for i := 1; i < 21; i++ {
		digit := strings.Index(plainLetters, s[i:i+1])
		if digit < 0 {
			return api.Token{}, api.ErrForm
		}
		n.Add(n.Mul(n, big.NewInt(32)), big.NewInt(int64(digit)))
	}
	rest := new(big.Int)
	n.DivMod(n, big.NewInt(16), rest)
	if s[0] != 't' || rest.Sign() != 0 {
		return api.Token{}, api.ErrForm
	}
	b := n.FillBytes(make([]byte, 12))
	x := api.Token{Slot: int(b[0]), Birth: int(new(big.Int).SetBytes(b[1:4]).Int64()), Tag: new(big.Int).SetBytes(b[4:]).Uint64()}
	if !plainMayBe(x.Slot, x.Birth) {
		return api.Token{}, api.ErrArg
	}
	return x, api.OK
}

var exampleForms = map[string]api.Token{
	"taaaaaaiaaaaaaaaaaaaa": {Slot: 0, Birth: 1, Tag: 0},
	"td4iaaah777777777777q": {Slot: 31, Birth: 1 << 20, Tag: math.MaxUint64},
	"tamaaatibencwpcnlzxxq": {Slot: 3, Birth: 77, Tag: 0x0123456789ABCDEF},
}

// slots and births: around the edges, and where cut off numbers would be again what may be.
func slots() []int {
	l := []int{math.MinInt, -1 << 32, -257, -256, -255, -2, -1, api.MaxNodes, api.MaxNodes + 1, 63, 64, 127, 128, 255, 256, 257, 1<<16 + 1, 1 << 32, 1<<32 + 1, math.MaxInt}
	for n := range api.MaxNodes {
		l = append(l, n)
	}
	return l
}

func births() []int {
	l := []int{math.MinInt, math.MinInt + 1, -1 << 32, -1 << 24, -1<<24 + 1, -2, -1, 0, 1, 2, 3, 77, 1<<20 - 1, 1 << 20, 1<<20 + 1, 1 << 21, 1<<24 - 1, 1 << 24, 1<<24 + 1, 1<<32 + 1, math.MaxInt - 1, math.MaxInt}
	for i := range 20 {
		l = append(l, 1<<i, 1<<i+1)
	}
	return l
}

func tags() []uint64 {
	r := rand.New(rand.NewSource(8))
	l := []uint64{0, 1, 2, 255, 256, 0x0123456789ABCDEF, math.MaxUint64, math.MaxUint64 - 1, math.MaxInt64}
	for i := range 64 {
		l = append(l, 1<<i)
	}
	for range 20 {
		l = append(l, r.Uint64())
	}
	return l
}

// some are tokens that may be.
func some() []api.Token {
	r := rand.New(rand.NewSource(81))
	l := []api.Token{}
	for _, x := range exampleForms {
		l = append(l, x)
	}
	for slot := range api.MaxNodes {
		l = append(l, api.Token{Slot: slot, Birth: 1}, api.Token{Slot: slot, Birth: api.MaxBirths, Tag: math.MaxUint64})
	}
	for range 2000 {
		l = append(l, api.Token{Slot: r.Intn(api.MaxNodes), Birth: 1 + r.Intn(api.MaxBirths), Tag: r.Uint64()})
	}
	return l
}

func printed(t *testing.T, x api.Token) string {
	t.Helper()
	s, err := Print(x)
	if err != nil {
		t.Fatalf("Print(%+v): %v", x, err)
	}
	return s
}

func refused(t *testing.T, s string, no api.Errno) {
	t.Helper()
	x, err := Parse(s)
	tells(t, s, err, no)
	if x != (api.Token{}) {
		t.Errorf("Parse(%q) = %+v beside an error", s, x)
	}
}

// P8.1, P8.2
func TestExamples(t *testing.T) {
	for form, x := range exampleForms {
		s, err := Print(x)
		tells(t, form, err, api.OK)
		if s != form {
			t.Errorf("Print(%+v) = %q: want %q", x, s, form)
		}
		got, err := Parse(form)
		tells(t, form, err, api.OK)
		if got != x {
			t.Errorf("Parse(%q) = %+v: want %+v", form, got, x)
		}
	}
	for _, x := range []api.Token{{Slot: 32, Birth: 1}, {Slot: -1, Birth: 1}, {}, {Birth: 1<<20 + 1}} {
		s, err := Print(x)
		tells(t, "Print", err, api.ErrArg)
		if s != "" {
			t.Errorf("Print(%+v) = %q beside an error", x, s)
		}
	}
	for s, no := range map[string]api.Errno{
		"":                       api.ErrShort,
		"taaaaaaiaaaaaaaaaaaaaa": api.ErrLong,
		"Taaaaaaiaaaaaaaaaaaaa":  api.ErrForm,
		"taaaaaa1aaaaaaaaaaaaa":  api.ErrForm,
		"taaaaaaiaaaaaaaaaaaab":  api.ErrForm,
		"taaaaaaaaaaaaaaaaaaaa":  api.ErrArg,
		"teaaaaaiaaaaaaaaaaaaa":  api.ErrArg,
	} {
		refused(t, s, no)
	}
}

// P8.1
func TestPrint(t *testing.T) {
	for _, slot := range slots() {
		for _, birth := range births() {
			for _, tag := range []uint64{0, 1, 0x0123456789ABCDEF, math.MaxUint64} {
				x := api.Token{Slot: slot, Birth: birth, Tag: tag}
				s, err := Print(x)
				if !plainMayBe(slot, birth) {
					tells(t, "Print", err, api.ErrArg)
					if s != "" || err != api.ErrArg {
						t.Errorf("Print(%+v) = %q, %v", x, s, err)
					}
					continue
				}
				if want := plainForm(x); s != want || err != nil {
					t.Errorf("Print(%+v) = %q, %v: want %q", x, s, err, want)
				}
			}
		}
	}
	for _, tag := range tags() {
		for _, x := range []api.Token{{Slot: 0, Birth: 1, Tag: tag}, {Slot: 31, Birth: api.MaxBirths, Tag: tag}} {
			if s, err := Print(x); s != plainForm(x) || err != nil {
				t.Errorf("Print(%+v) = %q, %v: want %q", x, s, err, plainForm(x))
			}
		}
	}
}

// P8.1: each slot with each birth's edge, and the first and last slot with each birth.
func TestWhatMayBe(t *testing.T) {
	for slot := -40; slot < 300; slot++ {
		if _, err := Print(api.Token{Slot: slot, Birth: 1}); (err == nil) != plainMayBe(slot, 1) {
			t.Errorf("slot %d: %v", slot, err)
		}
	}
	for birth := -10; birth <= api.MaxBirths+10; birth += 1 + birth&1*6 {
		x := api.Token{Slot: 31, Birth: birth}
		s, err := Print(x)
		if (err == nil) != plainMayBe(31, birth) || err == nil && s != plainForm(x) {
			t.Errorf("birth %d: %q, %v", birth, s, err)
		}
	}
}

// P8.2: ErrShort and ErrLong come ahead of all else.
func TestParseLengths(t *testing.T) {
	form := "tamaaatibencwpcnlzxxq"
	for n := range 100 {
		for _, s := range []string{strings.Repeat(form, 5)[:n], strings.Repeat("a", n), strings.Repeat("\x00", n), strings.Repeat("\xff", n), strings.Repeat("ttt", 50)[:n]} {
			switch {
			case n < 21:
				refused(t, s, api.ErrShort)
			case n > 21:
				refused(t, s, api.ErrLong)
			}
		}
	}
	for i := range form {
		refused(t, form[:i]+form[i+1:], api.ErrShort)
		refused(t, form[:i]+form[i:i+1]+form[i:], api.ErrLong)
	}
	refused(t, form+"\n", api.ErrLong)
	refused(t, form+"=", api.ErrLong)
	refused(t, " "+form, api.ErrLong)
	refused(t, strings.Repeat(form, 1<<12), api.ErrLong)
}

// P8.2: bytes count, not runes.
func TestParseCountsBytes(t *testing.T) {
	refused(t, "t"+strings.Repeat("ä", 20), api.ErrLong)
	refused(t, "t"+strings.Repeat("ä", 10), api.ErrForm)
	refused(t, strings.Repeat("ä", 10), api.ErrShort)
}

// P8.2: every byte at every place.
func TestParseSigns(t *testing.T) {
	for _, x := range some()[:20] {
		form := plainForm(x)
		for i := range form {
			for c := range 256 {
				s := form[:i] + string([]byte{byte(c)}) + form[i+1:]
				want, no := plainParse(s)
				got, err := Parse(s)
				if got != want || (err == nil) != (no == api.OK) || err != nil && err != no {
					t.Fatalf("Parse(%q) = %+v, %v: want %+v, %v", s, got, err, want, no)
				}
			}
		}
	}
	for i := range 21 {
		for _, c := range []string{"A", "Z", "0", "1", "8", "9", "=", "-", " ", "\x00", "\x7f", "\x80", "\xe1", "\xff", "T"} {
			refused(t, "taaaaaaiaaaaaaaaaaaaa"[:i]+c+"taaaaaaiaaaaaaaaaaaaa"[i+1:], api.ErrForm)
		}
	}
}

// P8.2
func TestParseFirstSign(t *testing.T) {
	for c := range 256 {
		s := string([]byte{byte(c)}) + "amaaatibencwpcnlzxxq"
		if c == 't' {
			if _, err := Parse(s); err != nil {
				t.Errorf("Parse(%q): %v", s, err)
			}
			continue
		}
		refused(t, s, api.ErrForm)
	}
}

// P8.2: of the last letter's bits the token has only the highest.
func TestParseLastLetter(t *testing.T) {
	for i, c := range plainLetters {
		s := "taaaaaaiaaaaaaaaaaaa" + string(c)
		if i%16 != 0 {
			refused(t, s, api.ErrForm)
			continue
		}
		x, err := Parse(s)
		tells(t, s, err, api.OK)
		if want := (api.Token{Birth: 1, Tag: uint64(i / 16)}); x != want {
			t.Errorf("Parse(%q) = %+v: want %+v", s, x, want)
		}
	}
}

// P8.2: slots and births that 8 and 24 bits can tell.
func TestParseWhatMayNotBe(t *testing.T) {
	for slot := range 256 {
		x := api.Token{Slot: slot, Birth: 1, Tag: 5}
		if slot >= 32 {
			refused(t, plainForm(x), api.ErrArg)
		} else if got, err := Parse(plainForm(x)); got != x || err != nil {
			t.Errorf("Parse of %+v: %+v, %v", x, got, err)
		}
	}
	for birth := 0; birth < 1<<24; birth += 1 + birth/64*37 {
		x := api.Token{Slot: 31, Birth: birth, Tag: math.MaxUint64}
		if birth < 1 || birth > 1<<20 {
			refused(t, plainForm(x), api.ErrArg)
		} else if got, err := Parse(plainForm(x)); got != x || err != nil {
			t.Errorf("Parse of %+v: %+v, %v", x, got, err)
		}
	}
	for _, x := range []api.Token{{Birth: 0}, {Birth: 0, Tag: math.MaxUint64}, {Birth: 1<<20 + 1}, {Birth: 1<<24 - 1}, {Slot: 255, Birth: 1<<24 - 1, Tag: math.MaxUint64}} {
		refused(t, plainForm(x), api.ErrArg)
	}
	if x, err := Parse(plainForm(api.Token{Slot: 31, Birth: 1 << 20})); x != (api.Token{Slot: 31, Birth: 1 << 20}) || err != nil {
		t.Errorf("the last that may be: %+v, %v", x, err)
	}
}

// P8.2: which of several errors is told.
func TestParseFirstError(t *testing.T) {
	for s, no := range map[string]api.Errno{
		"T11":                    api.ErrShort,
		"T7777777777777777777":   api.ErrShort,
		"T777777777777777777777": api.ErrLong,
		"Taaaaaaaaaaaaaaaaaaaa":  api.ErrForm,
		"taaaaaaaaaaaaaaaaaaab":  api.ErrForm,
		"t77777777777777777777":  api.ErrForm,
		"t7777777777777777777q":  api.ErrArg,
		"teaaaaaaaaaaaaaaaaaa1":  api.ErrForm,
		"t1aaaaaaaaaaaaaaaaaaa":  api.ErrForm,
	} {
		refused(t, s, no)
	}
}

// P8.2: texts of random letters against the plain reading.
func TestParseAsWorded(t *testing.T) {
	r := rand.New(rand.NewSource(82))
	seen := map[api.Errno]int{}
	for range 20000 {
		b := []byte("t")
		for i := range 20 {
			n := r.Intn(32)
			if i < 4 {
				n = r.Intn(5) * r.Intn(2)
			}
			b = append(b, plainLetters[n])
		}
		if r.Intn(4) > 0 {
			b[20] = "aq"[r.Intn(2)]
		}
		want, no := plainParse(string(b))
		seen[no]++
		got, err := Parse(string(b))
		if got != want || (err == nil) != (no == api.OK) || err != nil && err != no {
			t.Fatalf("Parse(%q) = %+v, %v: want %+v, %v", b, got, err, want, no)
		}
	}
	if seen[api.OK] == 0 || seen[api.ErrForm] == 0 || seen[api.ErrArg] == 0 {
		t.Errorf("the texts are too much alike: %v", seen)
	}
}

// P8.3
func TestParseOfPrint(t *testing.T) {
	forms := map[string]api.Token{}
	for _, x := range some() {
		s := printed(t, x)
		got, err := Parse(s)
		if got != x || err != nil {
			t.Errorf("Parse(%q) = %+v, %v: want %+v", s, got, err, x)
		}
		if other, ok := forms[s]; ok && other != x {
			t.Errorf("%+v and %+v have one form", x, other)
		}
		forms[s] = x
	}
}

// P8.3
func TestPrintOfParse(t *testing.T) {
	r := rand.New(rand.NewSource(83))
	texts := map[api.Token]string{}
	for range 20000 {
		b := []byte("taa" + plainLetters[:1] + "aaaaaaaaaaaaaaaaa")
		for i := 4; i < 20; i++ {
			b[i] = plainLetters[r.Intn(32)]
		}
		b[20] = plainLetters[r.Intn(32)]
		s := string(b)
		x, err := Parse(s)
		if err != nil {
			continue
		}
		if got := printed(t, x); got != s {
			t.Errorf("Print of Parse(%q) = %q", s, got)
		}
		if other, ok := texts[x]; ok && other != s {
			t.Errorf("%q and %q are one token", s, other)
		}
		texts[x] = s
	}
	if len(texts) < 100 {
		t.Errorf("only %d texts were read", len(texts))
	}
}

// P8.3: one bit more or less is another form.
func TestEachBitCounts(t *testing.T) {
	x := api.Token{Slot: 21, Birth: 0x5a5a5, Tag: 0x0123456789ABCDEF}
	forms := []string{printed(t, x)}
	for bit := range 5 {
		y := x
		y.Slot ^= 1 << bit
		forms = append(forms, printed(t, y))
	}
	for bit := range 20 {
		y := x
		y.Birth ^= 1 << bit
		forms = append(forms, printed(t, y))
	}
	for bit := range 64 {
		y := x
		y.Tag ^= 1 << bit
		forms = append(forms, printed(t, y))
	}
	slices.Sort(forms)
	if n := len(slices.Compact(forms)); n != 1+5+20+64 {
		t.Errorf("%d forms of 90 tokens", n)
	}
}

// R4: two answers share no memory.
func TestFormsAreNew(t *testing.T) {
	for form, x := range exampleForms {
		a, b := printed(t, x), printed(t, x)
		if unsafe.StringData(a) == unsafe.StringData(b) || unsafe.StringData(a) == unsafe.StringData(form) {
			t.Errorf("two answers %q are one memory", a)
		}
	}
}

// R5: the answer hangs on the argument alone.
func TestAskedAgain(t *testing.T) {
	l := some()
	for i, x := range l {
		s := printed(t, x)
		other := l[len(l)-1-i]
		printed(t, other)
		Print(api.Token{Slot: 99})
		Parse("t1")
		if y, err := Parse(printed(t, other)); y != other || err != nil {
			t.Fatalf("Parse: %+v, %v: want %+v", y, err, other)
		}
		if again := printed(t, x); again != s {
			t.Fatalf("Print(%+v) = %q, then %q", x, s, again)
		}
	}
}

// R1: every text is read, or refused by one of the four errors.
func FuzzParse(f *testing.F) {
	for form := range exampleForms {
		f.Add(form)
	}
	f.Add("")
	f.Add("t77777777777777777777")
	f.Fuzz(func(t *testing.T, s string) {
		want, no := plainParse(s)
		got, err := Parse(s)
		if got != want || (err == nil) != (no == api.OK) || err != nil && err != no {
			t.Fatalf("Parse(%q) = %+v, %v: want %+v, %v", s, got, err, want, no)
		}
	})
}
