package event

import (
	"bytes"
	"encoding/binary"
	"encoding/hex"
	"errors"
	"math"
	"math/rand"
	"slices"
	"strings"
	"testing"
	"unsafe"

	"lineage/api"
	"lineage/pack"
)

// tells checks an error's number, against all numbers; no error of this layer has a place.
func tells(t *testing.T, what string, err error, no api.Errno) {
	t.Helper()
	for n := api.OK; n <= api.ErrState+1; n++ {
		want := n == no && no != api.OK
		if errors.Is(err, n) != want {
			t.Errorf("%s: errors.Is(%v, %d): want just %d", what, err, n, no)
		}
	}
	if no == api.OK && err != nil {
		t.Errorf("%s: %v: want no error", what, err)
	}
	var f api.Fault
	if errors.As(err, &f) {
		t.Errorf("%s: a place %+v: want none", what, f)
	}
}

func unhex(t *testing.T, s string) []byte {
	t.Helper()
	b, err := hex.DecodeString(strings.ReplaceAll(s, " ", ""))
	if err != nil {
		t.Fatal(err)
	}
	return b
}

// encodes asks for an event's bytes, both ways.
func encodes(t *testing.T, what string, e api.Event, want []byte) {
	t.Helper()
	b, err := Encode(e)
	tells(t, what, err, api.OK)
	if !bytes.Equal(b, want) {
		t.Errorf("%s: Encode of %+v: %x: want %x", what, e, b, want)
	}
	got, err := Decode(want)
	tells(t, what, err, api.OK)
	if got != e {
		t.Errorf("%s: Decode of %x: %+v: want %+v", what, want, got, e)
	}
}

// noEvent asks for an event that may not be.
func noEvent(t *testing.T, what string, e api.Event) {
	t.Helper()
	b, err := Encode(e)
	tells(t, what, err, api.ErrArg)
	if len(b) != 0 {
		t.Errorf("%s: Encode of %+v: %x beside an error", what, e, b)
	}
}

// noBytes asks for bytes that tell no event.
func noBytes(t *testing.T, what string, b []byte, no api.Errno) {
	t.Helper()
	e, err := Decode(b)
	tells(t, what, err, no)
	if e != (api.Event{}) {
		t.Errorf("%s: Decode of %x: %+v beside an error", what, b, e)
	}
}

// The plain event: the chapter's words, one by one.

// plainName: 1 to 32 bytes, of which the first one is a letter.
func plainName(s string) bool {
	const letters, others = "abcdefghijklmnopqrstuvwxyz", "0123456789-_"
	return len(s) >= 1 && len(s) <= 32 && strings.Contains(letters, s[:1]) && strings.IndexFunc(s, func(r rune) bool {
		return !strings.ContainsRune(letters+others, r)
	}) < 0
}

// plainWrong is what is wrong with an event, each thing by itself.
func plainWrong(e api.Event) []string {
	var wrong []string
	ask := func(what string, holds bool) {
		if !holds {
			wrong = append(wrong, what)
		}
	}
	if e.Kind != 0 {
		ask("Born is there", e.Born == api.Session{})
	}
	if e.Kind != 1 {
		ask("Birth is there", e.Birth == 0)
	}
	if e.Kind != 2 {
		ask("Ticks is there", e.Ticks == 0)
	}
	s := e.Born
	switch e.Kind {
	case 0:
		ask("Born.Slot", 0 <= s.Slot && s.Slot < 32)
		ask("Born.Birth", 0 < s.Birth && s.Birth <= 1048576)
		ask("Born.User", plainName(s.User))
		ask("Born.Level", s.Level == 0 || s.Level == 1 || s.Level == 2)
		ask("Born.Born", 0 <= s.Born && s.Born <= 1099511627776)
		ask("Born.Deadline", s.Born < s.Deadline && s.Deadline <= 1099511627776)
		ask("Born.Kind", s.Kind == 0 || s.Kind == 1 || s.Kind == 2)
		if s.Kind == 0 {
			ask("Up of a login", s.Up.Slot == 0 && s.Up.Birth == 0)
			ask("Label of a login", s.Label == "")
			ask("Depth of a login", s.Depth == 0)
		} else {
			ask("Up.Slot", 0 <= s.Up.Slot && s.Up.Slot < 32)
			ask("Up.Birth", 0 < s.Up.Birth && s.Up.Birth < s.Birth)
			ask("Label", plainName(s.Label))
			ask("Depth", 0 < s.Depth && s.Depth <= 6)
		}
		if s.Kind == 2 && s.Born >= 0 && s.Deadline >= 0 {
			ask("life of a raised one", s.Deadline-s.Born <= 300)
		}
	case 1:
		ask("Birth", 0 < e.Birth && e.Birth <= 1048576)
	case 2:
		ask("Ticks", 0 < e.Ticks && e.Ticks <= 1073741824)
	default:
		ask("Kind", false)
	}
	return wrong
}

// rows: the fields of each kind, in the order of their bytes.
func rows() [][]string {
	return [][]string{
		{"Born.Slot", "Born.Birth", "Born.Up.Slot", "Born.Up.Birth", "Born.Kind", "Born.User", "Born.Label", "Born.Scopes", "Born.Level", "Born.Born", "Born.Deadline", "Born.Depth"},
		{"Birth"},
		{"Ticks"},
	}
}

// ints: the fields of an event that are ints, by name.
func ints(e *api.Event) map[string]*int {
	return map[string]*int{
		"Kind": &e.Kind, "Birth": &e.Birth, "Ticks": &e.Ticks,
		"Born.Slot": &e.Born.Slot, "Born.Birth": &e.Born.Birth, "Born.Up.Slot": &e.Born.Up.Slot, "Born.Up.Birth": &e.Born.Up.Birth, "Born.Kind": &e.Born.Kind,
		"Born.Level": &e.Born.Level, "Born.Born": &e.Born.Born, "Born.Deadline": &e.Born.Deadline, "Born.Depth": &e.Born.Depth,
	}
}

func words(e *api.Event) map[string]*string {
	return map[string]*string{"Born.User": &e.Born.User, "Born.Label": &e.Born.Label}
}

func fieldNames(m map[string]*int) []string {
	var l []string
	for n := range m {
		l = append(l, n)
	}
	slices.Sort(l)
	return l
}

// plain is an event as numbers and texts in which everything may stand.
type plain struct {
	kind    uint64
	numbers map[string]uint64
	texts   map[string]string
}

func plainOf(e api.Event) plain {
	p := plain{uint64(e.Kind), map[string]uint64{"Born.Scopes": uint64(e.Born.Scopes)}, map[string]string{}}
	for n, v := range ints(&e) {
		p.numbers[n] = uint64(*v)
	}
	for n, v := range words(&e) {
		p.texts[n] = *v
	}
	return p
}

// cuts are the bytes, and where each number and text of them begins.
func (p plain) cuts() (b []byte, at []int) {
	b = binary.AppendUvarint(nil, p.kind)
	if p.kind > 2 {
		return b, []int{0}
	}
	at = []int{0}
	for _, n := range rows()[p.kind] {
		at = append(at, len(b))
		if s, ok := p.texts[n]; ok {
			b = append(binary.AppendUvarint(b, uint64(len(s))), s...)
		} else {
			b = binary.AppendUvarint(b, p.numbers[n])
		}
	}
	return b, at
}

func (p plain) bytes() []byte {
	b, _ := p.cuts()
	return b
}

func errno(err error) api.Errno {
	no := api.OK
	errors.As(err, &no)
	return no
}

func plainDecode(b []byte) (api.Event, api.Errno) {
	r := pack.Open(b)
	kind, err := r.Number()
	if err != nil {
		return api.Event{}, errno(err)
	}
	if kind != 0 && kind != 1 && kind != 2 {
		return api.Event{}, api.ErrArg
	}
	e := api.Event{Kind: int(kind)}
	fits := true
	for _, n := range rows()[kind] {
		if s := words(&e)[n]; s != nil {
			if *s, err = r.Text(32); err != nil {
				return api.Event{}, errno(err)
			}
			continue
		}
		v, err := r.Number()
		if err != nil {
			return api.Event{}, errno(err)
		}
		if n == "Born.Scopes" {
			e.Born.Scopes = api.Set(v)
		} else {
			fits = fits && v < 1<<63
			*ints(&e)[n] = int(v)
		}
	}
	if r.Left() > 0 {
		return api.Event{}, api.ErrLong
	}
	if !fits || len(plainWrong(e)) > 0 {
		return api.Event{}, api.ErrArg
	}
	return e, api.OK
}

// asPlain holds both calls against the plain ones.
func asPlain(t *testing.T, e api.Event) {
	t.Helper()
	b, err := Encode(e)
	if len(plainWrong(e)) == 0 {
		want := plainOf(e).bytes()
		if err != nil || !bytes.Equal(b, want) {
			t.Fatalf("Encode of %+v: %x, %v: want %x", e, b, err, want)
		}
		if got, err := Decode(b); err != nil || got != e {
			t.Fatalf("Decode of Encode of %+v: %+v, %v", e, got, err)
		}
		return
	}
	if err != api.ErrArg || len(b) != 0 {
		t.Fatalf("Encode of %+v: %x, %v: want ErrArg, for %q", e, b, err, plainWrong(e))
	}
}

func asPlainBytes(t *testing.T, b []byte) {
	t.Helper()
	want, no := plainDecode(b)
	e, err := Decode(b)
	if e != want || errno(err) != no {
		t.Fatalf("Decode of %x: %+v, %v: want %+v, %v", b, e, err, want, no)
	}
	if no != api.OK {
		return
	}
	if again, err := Encode(e); err != nil || !bytes.Equal(again, b) {
		t.Fatalf("Encode of Decode of %x: %x, %v", b, again, err)
	}
}

// The events that are turned below, each in one thing.

func login() api.Event {
	return api.Event{Kind: api.EBirth, Born: api.Session{Slot: 3, Birth: 9, User: "ann", Scopes: 7, Level: api.LMid, Born: 40, Deadline: 100}}
}

func delegated() api.Event {
	e := login()
	e.Born.Kind, e.Born.Up, e.Born.Label, e.Born.Depth = api.KDelegated, api.Link{Slot: 5, Birth: 4}, "phone", 2
	return e
}

func raised() api.Event {
	e := delegated()
	e.Born.Kind, e.Born.Label = api.KRaised, "tv"
	return e
}

func revoked() api.Event { return api.Event{Kind: api.ERevoke, Birth: 300} }

func ticked() api.Event { return api.Event{Kind: api.ETick, Ticks: 5} }

func all() map[string]api.Event {
	return map[string]api.Event{"login": login(), "delegated": delegated(), "raised": raised(), "revoked": revoked(), "ticked": ticked()}
}

// longest has each field as great as it may be.
func longest() api.Event {
	return api.Event{Born: api.Session{
		Slot: api.MaxNodes - 1, Birth: api.MaxBirths, Up: api.Link{Slot: api.MaxNodes - 1, Birth: api.MaxBirths - 1}, Kind: api.KRaised,
		User: strings.Repeat("u", api.MaxName), Label: strings.Repeat("l", api.MaxName), Scopes: math.MaxUint64, Level: api.LHigh,
		Born: api.MaxClock - 1, Deadline: api.MaxClock, Depth: api.MaxDepth,
	}}
}

// P11.1, P11.2: the chapter's examples.
func TestExamples(t *testing.T) {
	ann := api.Session{Slot: 3, Birth: 1, User: "ann", Scopes: 7, Level: 1, Deadline: 300}
	encodes(t, "ERevoke of 300", api.Event{Kind: api.ERevoke, Birth: 300}, unhex(t, "01 ac 02"))
	encodes(t, "ETick of 5", api.Event{Kind: api.ETick, Ticks: 5}, unhex(t, "02 05"))
	encodes(t, "EBirth", api.Event{Kind: api.EBirth, Born: ann}, unhex(t, "00 03 01 00 00 00 03 61 6e 6e 00 07 01 00 ac 02 00"))

	noEvent(t, "ETick of 0", api.Event{Kind: api.ETick})
	noEvent(t, "ERevoke with Ticks 1", api.Event{Kind: api.ERevoke, Birth: 300, Ticks: 1})
	labelled, hung := ann, ann
	labelled.Label, hung.Kind = "x", api.KDelegated
	noEvent(t, "a login with a label", api.Event{Born: labelled})
	noEvent(t, "a delegated one without a parent", api.Event{Born: hung})

	for _, c := range []struct {
		b  string
		no api.Errno
	}{{"", api.ErrShort}, {"03", api.ErrArg}, {"01", api.ErrShort}, {"01 00", api.ErrArg}, {"01 01 00", api.ErrLong}, {"02 80 00", api.ErrForm}} {
		noBytes(t, "Decode of "+c.b, unhex(t, c.b), c.no)
	}
	noBytes(t, "Decode of nil", nil, api.ErrShort)
}

// P11.1, P11.2: the bytes of a delegated and of a raised one, each field in its place.
func TestBytesOfThoseBelow(t *testing.T) {
	e := delegated()
	encodes(t, "delegated", e, unhex(t, "00 03 09 05 04 01 03 616e6e 05 70686f6e65 07 01 28 64 02"))
	e.Born.Kind, e.Born.Label, e.Born.Scopes, e.Born.Level, e.Born.Birth, e.Born.Up.Birth = api.KRaised, "tv", 1<<63, api.LHigh, 300, 299
	encodes(t, "raised", e, unhex(t, "00 03 ac02 05 ab02 02 03 616e6e 02 7476 80808080808080808001 02 28 64 02"))
}

// edge: a field of an event, the values that it may have, and those that it may not.
type edge struct {
	field    string
	may, not []int
}

// edges, of each of the events above.
func edges() map[string][]edge {
	beyond := []int{math.MinInt, math.MinInt + 1, -1 << 32, -1, math.MaxInt - 1, math.MaxInt}
	not := func(l ...int) []int { return append(l, beyond...) }
	everyone := []edge{
		{"Born.Slot", []int{0, 1, api.MaxNodes - 1}, not(api.MaxNodes, api.MaxNodes+1)},
		{"Born.Level", []int{api.LLow, api.LMid, api.LHigh}, not(api.LHigh + 1)},
		{"Birth", []int{0}, not(1, 9)},
		{"Ticks", []int{0}, not(1, 5)},
	}
	ends := edge{"Born.Deadline", []int{41, 100, api.MaxClock - 1, api.MaxClock}, not(0, 39, 40, api.MaxClock+1)}
	hangs := []edge{
		{"Born.Up.Slot", []int{0, 1, api.MaxNodes - 1}, not(api.MaxNodes, api.MaxNodes+1)},
		{"Born.Up.Birth", []int{1, 2, 7, 8}, not(0, 9, 10, api.MaxBirths)},
		{"Born.Birth", []int{5, 6, api.MaxBirths - 1, api.MaxBirths}, not(0, 1, 3, 4, api.MaxBirths+1)},
		{"Born.Depth", []int{1, 2, api.MaxDepth}, not(0, api.MaxDepth+1)},
		{"Born.Kind", []int{api.KDelegated, api.KRaised}, not(api.KLogin, 3)},
	}
	return map[string][]edge{
		"login": slices.Concat(everyone, []edge{ends,
			{"Born.Born", []int{0, 1, 98, 99}, not(100, 101, api.MaxClock, api.MaxClock+1)},
			{"Born.Birth", []int{1, 2, api.MaxBirths - 1, api.MaxBirths}, not(0, api.MaxBirths+1)},
			{"Born.Up.Slot", []int{0}, not(1, 3)},
			{"Born.Up.Birth", []int{0}, not(1, 8)},
			{"Born.Depth", []int{0}, not(1, 2)},
			{"Born.Kind", []int{api.KLogin}, not(api.KDelegated, api.KRaised, 3)},
		}),
		"delegated": slices.Concat(everyone, hangs, []edge{ends, {"Born.Born", []int{0, 1, 98, 99}, not(100, 101)}}),
		"raised": slices.Concat(everyone, hangs, []edge{
			{"Born.Deadline", []int{41, 339, 340}, not(0, 39, 40, 341, 342, api.MaxClock)},
			{"Born.Born", []int{0, 1, 98, 99}, not(100, 101)},
		}),
		"revoked": {
			{"Birth", []int{1, 2, 300, api.MaxBirths - 1, api.MaxBirths}, not(0, api.MaxBirths+1)},
			{"Ticks", []int{0}, not(1)},
			{"Kind", []int{api.ERevoke}, not(api.EBirth, api.ETick, 3, 4)},
		},
		"ticked": {
			{"Ticks", []int{1, 2, api.MaxTick - 1, api.MaxTick}, not(0, api.MaxTick+1)},
			{"Birth", []int{0}, not(1)},
			{"Kind", []int{api.ETick}, not(api.EBirth, api.ERevoke, 3, 4)},
		},
	}
}

// P11.1 to P11.3: each number at its bounds, and beyond them; as an event and as bytes.
func TestEdges(t *testing.T) {
	for what, l := range edges() {
		for _, c := range l {
			for _, v := range c.may {
				e := all()[what]
				*ints(&e)[c.field] = v
				encodes(t, what+" "+c.field, e, plainOf(e).bytes())
			}
			for _, v := range c.not {
				e := all()[what]
				*ints(&e)[c.field] = v
				noEvent(t, what+" "+c.field, e)
				if slices.Contains(rows()[all()[what].Kind], c.field) {
					noBytes(t, what+" "+c.field, plainOf(e).bytes(), api.ErrArg)
				}
			}
		}
	}
}

// P11.1: times at the end of the clock.
func TestEndOfTheClock(t *testing.T) {
	for _, c := range []struct {
		born, deadline int
		may            bool
	}{
		{api.MaxClock - 1, api.MaxClock, true}, {api.MaxClock - 300, api.MaxClock, true}, {api.MaxClock, api.MaxClock, false},
		{api.MaxClock, api.MaxClock + 1, false}, {api.MaxClock - 1, api.MaxClock + 1, false}, {api.MaxClock + 1, api.MaxClock + 2, false},
		{math.MaxInt, math.MinInt, false}, {math.MaxInt, math.MaxInt, false}, {-1, 5, false}, {math.MinInt, 1, false}, {0, 300, true}, {0, 1, true}, {0, 0, false},
	} {
		for _, what := range []string{"login", "delegated", "raised"} {
			e := all()[what]
			e.Born.Born, e.Born.Deadline = c.born, c.deadline
			if c.may {
				encodes(t, what, e, plainOf(e).bytes())
			} else {
				noEvent(t, what, e)
				noBytes(t, what, plainOf(e).bytes(), api.ErrArg)
			}
		}
	}
	e := raised()
	e.Born.Born, e.Born.Deadline = api.MaxClock-301, api.MaxClock
	noEvent(t, "a raised one of 301 ticks", e)
	noBytes(t, "a raised one of 301 ticks", plainOf(e).bytes(), api.ErrArg)
}

// P11.1: a parent's birth is ahead of the child's, also where both are small or great.
func TestParentsBirth(t *testing.T) {
	for _, c := range []struct {
		up, birth int
		may       bool
	}{
		{0, 1, false}, {1, 1, false}, {1, 2, true}, {0, 2, false}, {2, 2, false}, {api.MaxBirths - 1, api.MaxBirths, true}, {1, api.MaxBirths, true},
		{api.MaxBirths, api.MaxBirths, false}, {api.MaxBirths, api.MaxBirths + 1, false}, {1, api.MaxBirths + 1, false}, {-1, 1, false}, {math.MaxInt, math.MinInt, false},
	} {
		for _, what := range []string{"delegated", "raised"} {
			e := all()[what]
			e.Born.Up.Birth, e.Born.Birth = c.up, c.birth
			if c.may {
				encodes(t, what, e, plainOf(e).bytes())
			} else {
				noEvent(t, what, e)
				noBytes(t, what, plainOf(e).bytes(), api.ErrArg)
			}
		}
	}
}

// P11.1, P11.2: names, and texts that are none; more than MaxName bytes are ErrLong as bytes.
func TestNames(t *testing.T) {
	most := strings.Repeat("a", api.MaxName)
	good := []string{"a", "z", "ann", "tv-1", "a_b", "a-", "a9", most, "z" + strings.Repeat("9", api.MaxName-1)}
	bad := []string{"A", "1a", "-a", "_a", "a.b", "a b", "a\n", "é", "aé", "a\x00", "\x00", "\xff", "a\xff", "aA", " ", strings.Repeat("A", api.MaxName), most[1:] + "."}
	long := []string{most + "a", most + most, strings.Repeat("A", api.MaxName+1), strings.Repeat("a", 300)}
	check := func(what string, e api.Event, field string, bad []string) {
		for _, s := range good {
			*words(&e)[field] = s
			encodes(t, what+" "+field, e, plainOf(e).bytes())
		}
		for _, s := range bad {
			*words(&e)[field] = s
			noEvent(t, what+" "+field, e)
			noBytes(t, what+" "+field, plainOf(e).bytes(), api.ErrArg)
		}
		for _, s := range long {
			*words(&e)[field] = s
			noEvent(t, what+" "+field, e)
			noBytes(t, what+" "+field, plainOf(e).bytes(), api.ErrLong)
		}
	}
	none := append([]string{""}, bad...)
	check("login", login(), "Born.User", none)
	for _, what := range []string{"delegated", "raised"} {
		check(what, all()[what], "Born.User", none)
		check(what, all()[what], "Born.Label", none)
	}
	for _, s := range slices.Concat(good, bad) {
		e := login()
		e.Born.Label = s
		noEvent(t, "a login's label", e)
		noBytes(t, "a login's label", plainOf(e).bytes(), api.ErrArg)
	}
	for _, s := range long {
		e := login()
		e.Born.Label = s
		noEvent(t, "a login's label", e)
		noBytes(t, "a login's label", plainOf(e).bytes(), api.ErrLong)
	}
}

// P11.1, P11.2: any set is taken.
func TestScopes(t *testing.T) {
	for _, set := range []api.Set{0, 1, 2, 127, 128, 1<<63 - 1, 1 << 63, 1<<63 + 1, math.MaxUint64 - 1, math.MaxUint64} {
		for _, what := range []string{"login", "delegated", "raised"} {
			e := all()[what]
			e.Born.Scopes = set
			encodes(t, what, e, plainOf(e).bytes())
		}
	}
}

// P11.1: what isn't named for the kind has its zero value.
func TestFieldsOfOtherKinds(t *testing.T) {
	for _, what := range []string{"revoked", "ticked"} {
		for i, s := range []api.Session{
			{Slot: 1}, {Birth: 1}, {Up: api.Link{Slot: 1}}, {Up: api.Link{Birth: 1}}, {Kind: 1}, {User: "a"}, {Label: "a"}, {Scopes: 1}, {Scopes: 1 << 63},
			{Level: 1}, {Born: 1}, {Deadline: 1}, {Depth: 1}, {Slot: -1}, {Depth: -1}, login().Born, raised().Born,
		} {
			e := all()[what]
			e.Born = s
			noEvent(t, what, e)
			if len(plainWrong(e)) != 1 {
				t.Errorf("%s, %d: %q", what, i, plainWrong(e))
			}
		}
	}
	for _, c := range []struct{ birth, ticks int }{{1, 0}, {0, 1}, {-1, 0}, {0, -1}, {9, 5}} {
		for _, what := range []string{"login", "delegated", "raised"} {
			e := all()[what]
			e.Birth, e.Ticks = c.birth, c.ticks
			noEvent(t, what, e)
		}
	}
	noEvent(t, "nothing", api.Event{})
	both := revoked()
	both.Ticks = 5
	noEvent(t, "revoked and ticked", both)
	both.Kind = api.ETick
	noEvent(t, "ticked and revoked", both)
}

// P11.1, P11.2: kinds that are none; whatever stands behind them is not looked at.
func TestKinds(t *testing.T) {
	for _, k := range []int{math.MinInt, math.MinInt + 1, math.MinInt + 2, -256, -1, 3, 4, 127, 128, 256, 257, 258, 1 << 32, math.MaxInt} {
		noEvent(t, "kind", api.Event{Kind: k})
		for what, e := range all() {
			e.Kind = k
			noEvent(t, what, e)
		}
		for _, behind := range []string{"", "\x00", "\x01", "\x80", "\x80\x00", "\x05\x05"} {
			noBytes(t, "kind", append(binary.AppendUvarint(nil, uint64(k)), behind...), api.ErrArg)
		}
	}
	for _, b := range [][]byte{{0x80, 0}, {0x81, 0, 5}, append(bytes.Repeat([]byte{0xff}, 9), 2)} {
		noBytes(t, "kind", b, api.ErrForm)
	}
	noBytes(t, "kind", []byte{0x80}, api.ErrShort)
}

// P11.2: a number that doesn't fit int, in each place; its low bits, and what it would be with another sign, are what may be.
func TestNumbersThatFitNoInt(t *testing.T) {
	for what, e := range all() {
		for _, n := range rows()[e.Kind] {
			p := plainOf(e)
			if _, ok := p.texts[n]; ok || n == "Born.Scopes" {
				continue
			}
			is := p.numbers[n]
			for _, v := range []uint64{1 << 63, 1<<63 + is, 1<<63 + 1, math.MaxUint64, math.MaxUint64 - 1, -is, ^is, 1<<63 + 1<<32 + is} {
				if v < 1<<63 {
					continue
				}
				p.numbers[n] = v
				noBytes(t, what+" "+n, p.bytes(), api.ErrArg)
				noBytes(t, what+" "+n, append(p.bytes(), 0), api.ErrLong)
				noBytes(t, what+" "+n, p.bytes()[:len(p.bytes())-1], api.ErrShort)
			}
			for _, v := range []uint64{1 << 32, 1<<32 + is, 1<<62 + is} {
				p.numbers[n] = v
				asPlainBytes(t, p.bytes())
			}
		}
	}
}

// P11.2, P11.4: bytes of an event that are cut off, anywhere, and with one more behind them.
func TestCutOffAndLeftOver(t *testing.T) {
	l := []api.Event{longest()}
	for _, e := range all() {
		l = append(l, e)
	}
	r := rand.New(rand.NewSource(114))
	for range 300 {
		l = append(l, some(r))
	}
	for _, e := range l {
		b, err := Encode(e)
		if err != nil || len(b) == 0 || len(b) > 245 {
			t.Fatalf("Encode of %+v: %d bytes, %v", e, len(b), err)
		}
		for n := range b {
			noBytes(t, "cut off", b[:n], api.ErrShort)
		}
		for _, behind := range []string{"\x00", "\x01", "\x80", "\xff", "ab"} {
			noBytes(t, "left over", append(bytes.Clone(b), behind...), api.ErrLong)
		}
	}
}

// P11.2: a number that isn't in its one form, in each place; it is told ahead of what is wrong behind it.
func TestForms(t *testing.T) {
	wrong := []struct {
		b  []byte
		no api.Errno
	}{
		{[]byte{0x80, 0}, api.ErrForm}, {[]byte{0xff, 0x80, 0}, api.ErrForm}, {append(bytes.Repeat([]byte{0x80}, 9), 2), api.ErrForm},
		{bytes.Repeat([]byte{0xff}, 10), api.ErrForm},
	}
	for what, e := range all() {
		b, at := plainOf(e).cuts()
		for i, n := range at {
			for _, w := range wrong {
				noBytes(t, what, append(bytes.Clone(b[:n]), w.b...), w.no)
				noBytes(t, what, slices.Concat(b[:n], w.b, b[n:]), w.no)
				noBytes(t, what, slices.Concat(b[:n], w.b, []byte{0x80, 0}), w.no)
			}
			noBytes(t, what, append(bytes.Clone(b[:n]), 0x80), api.ErrShort)
			if i > 0 && e.Kind == api.EBirth && (i == 6 || i == 7) {
				noBytes(t, what, append(bytes.Clone(b[:n]), 33), api.ErrLong)
				noBytes(t, what, append(bytes.Clone(b[:n]), 33, 0x80, 0), api.ErrLong)
				noBytes(t, what, append(bytes.Clone(b[:n]), 32, 'a'), api.ErrShort)
			}
		}
	}
}

// P11.2: which of several errors is told.
func TestFirstError(t *testing.T) {
	for _, c := range []struct {
		what, b string
		no      api.Errno
	}{
		{"no kind, cut off behind it", "03 80", api.ErrArg},
		{"a kind in another form, none", "83 00", api.ErrForm},
		{"a slot that may not be, and cut off", "00 20", api.ErrShort},
		{"a slot that may not be, a number in another form", "00 20 80 00", api.ErrForm},
		{"a slot that may not be, a text that is too long", "00 20 01 00 00 00 21", api.ErrLong},
		{"a text that is too long, its bytes in no form", "00 20 01 00 00 00 21 80 00", api.ErrLong},
		{"a text's number in another form", "00 20 01 00 00 00 a1 00", api.ErrForm},
		{"a text that is cut off", "00 20 01 00 00 00 03 61 6e", api.ErrShort},
		{"no name, a label that is too long", "00 03 01 00 00 00 01 41 21", api.ErrLong},
		{"no user, a number in another form", "00 03 01 00 00 00 00 00 07 81 00", api.ErrForm},
		{"a kind of session that is none, and cut off", "00 03 01 00 00 07 03 61 6e 6e", api.ErrShort},
		{"a slot that may not be, a byte left over", "00 20 01 00 00 00 03 61 6e 6e 00 07 01 00 05 00 00", api.ErrLong},
		{"a slot that may not be", "00 20 01 00 00 00 03 61 6e 6e 00 07 01 00 05 00", api.ErrArg},
		{"the birth 0, a byte left over", "01 00 00", api.ErrLong},
		{"no ticks, bytes left over that are in another form", "02 00 80 00", api.ErrLong},
		{"a number that doesn't fit, a byte left over", "02 ff ff ff ff ff ff ff ff ff 01 00", api.ErrLong},
		{"a number that doesn't fit", "02 ff ff ff ff ff ff ff ff ff 01", api.ErrArg},
		{"a number of too many bits", "02 ff ff ff ff ff ff ff ff ff 02", api.ErrForm},
	} {
		noBytes(t, c.what, unhex(t, c.b), c.no)
	}
}

// some is an event that may be.
func some(r *rand.Rand) api.Event {
	name := func() string {
		b := make([]byte, 1+r.Intn(api.MaxName))
		for i := range b {
			b[i] = "abcxyz019-_"[r.Intn(11)]
		}
		b[0] = 'a' + byte(r.Intn(26))
		return string(b)
	}
	upTo := func(n int) int { return 1 + r.Intn(n)>>r.Intn(41)%n }
	switch r.Intn(6) {
	case 0:
		return api.Event{Kind: api.ERevoke, Birth: upTo(api.MaxBirths)}
	case 1:
		return api.Event{Kind: api.ETick, Ticks: upTo(api.MaxTick)}
	}
	s := api.Session{Slot: r.Intn(api.MaxNodes), Birth: upTo(api.MaxBirths), Kind: r.Intn(3), User: name(), Scopes: api.Set(r.Uint64() >> r.Intn(64)), Level: r.Intn(3)}
	s.Born = upTo(api.MaxClock) - 1
	s.Deadline = s.Born + upTo(api.MaxClock-s.Born)
	if s.Kind == api.KRaised {
		s.Deadline = min(s.Deadline, s.Born+upTo(api.StepUpTicks))
	}
	if s.Kind != api.KLogin {
		s.Birth = max(s.Birth, 2)
		s.Up = api.Link{Slot: r.Intn(api.MaxNodes), Birth: upTo(s.Birth - 1)}
		s.Label, s.Depth = name(), upTo(api.MaxDepth)
	}
	return api.Event{Born: s}
}

// P11.1, P11.3: many events that may be, and what becomes of them if a field or two are turned.
func TestAsWorded(t *testing.T) {
	values := []int{math.MinInt, -1, 0, 1, 2, 3, 4, 5, 6, 7, 31, 32, 300, 301, 340, 341, 1 << 20, 1<<20 + 1, 1 << 30, 1<<30 + 1, 1<<40 - 1, 1 << 40, 1<<40 + 1, math.MaxInt}
	r := rand.New(rand.NewSource(113))
	for range 20000 {
		e := some(r)
		if w := plainWrong(e); len(w) > 0 {
			t.Fatalf("%+v: %q", e, w)
		}
		asPlain(t, e)
		asPlainBytes(t, plainOf(e).bytes())
		l := fieldNames(ints(&e))
		for range 1 + r.Intn(2) {
			f := ints(&e)[l[r.Intn(len(l))]]
			*f = values[r.Intn(len(values))]
			asPlain(t, e)
			asPlainBytes(t, plainOf(e).bytes())
		}
	}
}

// P11.1 to P11.3: any two fields of each event at each value of some.
func TestPairsAsWorded(t *testing.T) {
	values := []int{-1, 0, 1, 2, 3, 6, 7, 31, 32, 40, 41, 300, 340, 341, 1 << 20, 1<<20 + 1, 1 << 40, 1<<40 + 1}
	for _, from := range all() {
		l := fieldNames(ints(&from))
		for i, a := range l {
			for _, b := range l[i+1:] {
				for _, v := range values {
					for _, w := range values {
						e := from
						m := ints(&e)
						*m[a], *m[b] = v, w
						asPlain(t, e)
						asPlainBytes(t, plainOf(e).bytes())
					}
				}
			}
		}
	}
}

// P11.2, P11.3: all rows of up to two bytes, and random ones, whole events with a byte turned among them.
func TestBytesAsWorded(t *testing.T) {
	for i := range 256 {
		asPlainBytes(t, []byte{byte(i)})
		for j := range 256 {
			asPlainBytes(t, []byte{byte(i), byte(j)})
			for _, k := range []byte{0, 1, 2, 0x40, 0x7f, 0x80, 0xff} {
				asPlainBytes(t, []byte{byte(i % 4), byte(j), k})
			}
		}
	}
	r := rand.New(rand.NewSource(115))
	for range 40000 {
		b := plainOf(some(r)).bytes()
		for range 1 + r.Intn(3) {
			b[r.Intn(len(b))] = byte(r.Intn(256) >> r.Intn(8))
		}
		asPlainBytes(t, b)
	}
}

// P11.3: unlike events have unlike bytes.
func TestUnlike(t *testing.T) {
	r := rand.New(rand.NewSource(116))
	was := map[string]api.Event{}
	for range 20000 {
		e := some(r)
		b, err := Encode(e)
		if err != nil {
			t.Fatal(err)
		}
		if other, ok := was[string(b)]; ok && other != e {
			t.Fatalf("%+v and %+v: %x", e, other, b)
		}
		was[string(b)] = e
	}
}

// P11.4
func TestLongest(t *testing.T) {
	e := longest()
	b, err := Encode(e)
	tells(t, "longest", err, api.OK)
	if len(b) != 100 {
		t.Errorf("the longest event has %d bytes: %x", len(b), b)
	}
	encodes(t, "longest", e, plainOf(e).bytes())
	r := rand.New(rand.NewSource(117))
	for range 20000 {
		if other, err := Encode(some(r)); err != nil || len(other) > len(b) || len(other) > 245 {
			t.Fatalf("%d bytes, %v", len(other), err)
		}
	}
}

// R3, R4: bytes that were handed out are their taker's alone.
func TestBytesAreNew(t *testing.T) {
	for what, e := range all() {
		want := plainOf(e).bytes()
		first, err := Encode(e)
		second, err2 := Encode(e)
		if err != nil || err2 != nil {
			t.Fatal(err, err2)
		}
		first = first[:cap(first)]
		for i := range first {
			first[i] = 0xee
		}
		if third, _ := Encode(e); !bytes.Equal(second, want) || !bytes.Equal(third, want) {
			t.Errorf("%s: %x, %x: want %x", what, second, third, want)
		}
		if e != all()[what] {
			t.Errorf("%s: the event was turned: %+v", what, e)
		}
	}
}

// R3, R4: bytes that were handed in are read up to their length, not written, and not kept.
func TestBytesHandedIn(t *testing.T) {
	for what, e := range all() {
		b := plainOf(e).bytes()
		room := append(bytes.Clone(b), "\x00\x05behind"...)
		was := bytes.Clone(room)
		got, err := Decode(room[:len(b)])
		tells(t, what, err, api.OK)
		if !bytes.Equal(room, was) {
			t.Errorf("%s: the bytes were written: %x", what, room)
		}
		for i := range room {
			room[i] = 'z'
		}
		if got != e {
			t.Errorf("%s: the event turned with the bytes: %+v", what, got)
		}
		noBytes(t, what, append(bytes.Clone(b), 0)[:len(b)-1], api.ErrShort)
	}
}

// R4: no two answers share a text.
func TestTextsAreNew(t *testing.T) {
	e := delegated()
	e.Born.User, e.Born.Label = "same", "same"
	b := plainOf(e).bytes()
	seen := map[*byte]bool{}
	for range 20 {
		got, err := Decode(b)
		if err != nil {
			t.Fatal(err)
		}
		for _, s := range []string{got.Born.User, got.Born.Label} {
			if seen[unsafe.StringData(s)] {
				t.Fatal("a text was handed out twice")
			}
			seen[unsafe.StringData(s)] = true
		}
	}
}

// R5: the same again, whatever was asked between.
func TestAgain(t *testing.T) {
	b := plainOf(raised()).bytes()
	for range 3 {
		if e, err := Decode(b); e != raised() || err != nil {
			t.Errorf("%+v, %v", e, err)
		}
		noBytes(t, "between", b[:5], api.ErrShort)
		noBytes(t, "between", []byte{3}, api.ErrArg)
		noEvent(t, "between", api.Event{Kind: 3})
		if got, err := Encode(raised()); !bytes.Equal(got, b) || err != nil {
			t.Errorf("%x, %v", got, err)
		}
	}
}

func FuzzDecode(f *testing.F) {
	for _, e := range all() {
		f.Add(plainOf(e).bytes())
	}
	f.Add(plainOf(longest()).bytes())
	f.Add([]byte{})
	f.Add([]byte{3})
	f.Fuzz(func(t *testing.T, b []byte) { asPlainBytes(t, b) })
}
