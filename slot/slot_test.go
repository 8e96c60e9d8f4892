package slot

import (
	"math"
	"math/bits"
	"slices"
	"strconv"
	"strings"
	"testing"

	"marshalyard/api"
	"marshalyard/crc"
)

// plain is a set of slots as simple as may be: what the calls are held against.
type plain [api.Slots]bool

func (p *plain) bits() api.Bits {
	var b api.Bits
	for n, on := range p {
		if on {
			b[n/64] |= 1 << (n % 64)
		}
	}
	return b
}

func (p *plain) ranges() []api.Range {
	var l []api.Range
	for n, on := range p {
		switch {
		case !on:
		case n > 0 && p[n-1]:
			l[len(l)-1].To = n
		default:
			l = append(l, api.Range{From: n, To: n})
		}
	}
	return l
}

func (p *plain) text() string {
	var l []string
	for _, r := range p.ranges() {
		s := strconv.Itoa(r.From)
		if r.To != r.From {
			s += "-" + strconv.Itoa(r.To)
		}
		l = append(l, s)
	}
	return strings.Join(l, " ")
}

func of(slots ...int) *plain {
	var p plain
	for _, n := range slots {
		p[n] = true
	}
	return &p
}

// where has the slots for which f holds.
func where(f func(n int) bool) *plain {
	var p plain
	for n := range p {
		p[n] = f(n)
	}
	return &p
}

// chance is numbers that look like chance and are the same at every run.
func chance(seed uint32) func() uint32 {
	return func() uint32 {
		seed = seed*1664525 + 1013904223
		return seed >> 8
	}
}

func sets() []*plain {
	l := []*plain{
		of(),
		of(0),
		of(16383),
		of(0, 16383),
		of(63), of(64), of(63, 64), of(62, 64), of(127, 128, 129),
		of(3, 4, 5, 9),
		where(func(n int) bool { return true }),
		where(func(n int) bool { return n > 0 }),
		where(func(n int) bool { return n < 16383 }),
		where(func(n int) bool { return n != 8191 }),
		where(func(n int) bool { return n%2 == 0 }),
		where(func(n int) bool { return n%2 == 1 }),
		where(func(n int) bool { return n/64%2 == 0 }),
		where(func(n int) bool { return n >= 64 && n < 128 }),
		where(func(n int) bool { return n%64 != 0 }),
		where(func(n int) bool { return n%64 != 63 }),
	}
	for i := range 12 {
		next := chance(uint32(i))
		l = append(l, where(func(n int) bool { return next()>>(i/2)&3 == 0 }))
	}
	next, on := chance(9), false
	return append(l, where(func(n int) bool {
		if next()%200 == 0 {
			on = !on
		}
		return on
	}))
}

// numbers has slots, those at the edges of words among them, and such as are none.
var numbers = []int{0, 1, 2, 62, 63, 64, 65, 126, 127, 128, 8191, 8192, 16319, 16320, 16382, 16383}
var noSlots = []int{-1, -2, -63, -64, -65, 16384, 16385, 16448, 1 << 20, math.MaxInt, math.MinInt}

func TestTag(t *testing.T) {
	cases := []struct{ key, want string }{
		{"a{b}c{d}", "b"},
		{"{}a", "{}a"},
		{"a{b", "a{b"},
		{"a{{b}}", "{b"},
		{"", ""},
		{"foo", "foo"},
		{"{foo}x", "foo"},
		{"x{foo}", "foo"},
		{"{", "{"},
		{"}", "}"},
		{"{}", "{}"},
		{"}{", "}{"},
		{"}a{", "}a{"},
		{"a}b", "a}b"},
		{"a}b{c}d", "c"},
		{"}{}", "}{}"},
		{"{}{a}", "{}{a}"},
		{"a{}b{c}", "a{}b{c}"},
		{"{{}", "{"},
		{"{{}}", "{"},
		{"{a}}", "a"},
		{"{a{b}c}", "a{b"},
		{"{ }", " "},
		{"{\x00\xff}\xfe", "\x00\xff"},
		{"\xff{\xc3}", "\xc3"},
		{"{ä}", "ä"},
		{strings.Repeat("x", 5000) + "{" + strings.Repeat("y", 5000) + "}", strings.Repeat("y", 5000)},
	}
	for _, c := range cases {
		if got := Tag(c.key); got != c.want {
			t.Errorf("P2.1: Tag(%q) is %q, want %q", c.key, got, c.want)
		}
	}
}

// words are all texts of at most n bytes of an alphabet.
func words(alphabet string, n int) []string {
	all, last := []string{""}, []string{""}
	for range n {
		var longer []string
		for _, w := range last {
			for i := range len(alphabet) {
				longer = append(longer, w+alphabet[i:i+1])
			}
		}
		all, last = append(all, longer...), longer
	}
	return all
}

// tagByBytes is P2.1 byte by byte.
func tagByBytes(key string) string {
	for i := range len(key) {
		if key[i] != '{' {
			continue
		}
		for j := i + 1; j < len(key); j++ {
			if key[j] == '}' && j > i+1 {
				return key[i+1 : j]
			}
			if key[j] == '}' {
				return key
			}
		}
		return key
	}
	return key
}

func TestTagOfAllShortKeys(t *testing.T) {
	for _, key := range words("{}ab", 7) {
		if got, want := Tag(key), tagByBytes(key); got != want {
			t.Fatalf("P2.1: Tag(%q) is %q, want %q", key, got, want)
		}
	}
}

func TestOf(t *testing.T) {
	cases := []struct {
		key  string
		want int
	}{
		{"foo", 12182},
		{"{foo}x", 12182},
		{"123456789", 0x31c3},
		{"", 0},
		{"\x01", 0x1021},
		{"\x0f", 0xf1ef - 3*16384},
	}
	for _, c := range cases {
		if got := Of(c.key); got != c.want {
			t.Errorf("P2.1: Of(%q) is %d, want %d", c.key, got, c.want)
		}
	}
	for _, key := range words("{}\x00\xffz", 5) {
		got, want := Of(key), int(crc.Sum([]byte(tagByBytes(key))))%api.Slots
		if got != want || got < 0 || got >= api.Slots {
			t.Fatalf("P2.1: Of(%q) is %d, want %d", key, got, want)
		}
	}
}

func TestKeysOfOneTagAreInOneSlot(t *testing.T) {
	for _, tag := range []string{"a", "foo", "{", "{b", " ", "\x00", "user:1000", "123456789"} {
		want := Of("{" + tag + "}")
		for _, key := range []string{"{" + tag + "}x", "x{" + tag + "}", "}{" + tag + "}{other}", "{" + tag + "}}"} {
			if Tag(key) != tag || Of(key) != want {
				t.Errorf("P2.5: %q has the tag %q and the slot %d, want %q and %d", key, Tag(key), Of(key), tag, want)
			}
		}
	}
	slots := map[string]int{}
	for _, key := range words("{}ab", 6) {
		if was, ok := slots[Tag(key)]; ok && was != Of(key) {
			t.Fatalf("P2.5: %q is in the slot %d, another key of its tag in %d", key, Of(key), was)
		}
		slots[Tag(key)] = Of(key)
	}
}

func TestHas(t *testing.T) {
	for _, p := range sets() {
		b := p.bits()
		for n := range api.Slots {
			if Has(b, n) != p[n] {
				t.Fatalf("P2.2: Has(%q, %d) is %v", p.text(), n, !p[n])
			}
		}
		for _, n := range noSlots {
			if Has(b, n) {
				t.Errorf("P2.2: Has(%q, %d) is true", p.text(), n)
			}
		}
	}
}

func TestWordsAndBits(t *testing.T) {
	for _, n := range numbers {
		var want api.Bits
		want[n/64] = 1 << (n % 64)
		if got := With(api.Bits{}, n, true); got != want {
			t.Errorf("P2.2: With(none, %d, true) is not the bit %d of the word %d", n, n%64, n/64)
		}
		if got, e := Make([]api.Range{{From: n, To: n}}); got != want || e != api.OK {
			t.Errorf("P2.3: Make(%d-%d) is not the bit %d of the word %d: %d", n, n, n%64, n/64, e)
		}
	}
}

func TestWith(t *testing.T) {
	for _, p := range sets() {
		b := p.bits()
		for _, n := range numbers {
			for _, on := range []bool{true, false} {
				want := *p
				want[n] = on
				if got := With(b, n, on); got != want.bits() {
					t.Errorf("P2.2: With(%q, %d, %v) is %q", p.text(), n, on, Print(got))
				}
			}
		}
		for _, n := range noSlots {
			if With(b, n, true) != b || With(b, n, false) != b {
				t.Errorf("P2.2: With(%q, %d, ..) is another set", p.text(), n)
			}
		}
		if b != p.bits() {
			t.Errorf("R5: With changed %q to %q", p.text(), Print(b))
		}
	}
}

func TestCount(t *testing.T) {
	for _, p := range sets() {
		b, want := p.bits(), 0
		for _, word := range b {
			want += bits.OnesCount64(word)
		}
		if got := Count(b); got != want {
			t.Errorf("P2.2: Count(%q) is %d, want %d", p.text(), got, want)
		}
	}
	if Count(api.Bits{}) != 0 || Count(where(func(int) bool { return true }).bits()) != 16384 {
		t.Error("P2.2: Count of no slot, or of all")
	}
}

func TestRanges(t *testing.T) {
	for _, p := range sets() {
		b := p.bits()
		if got, want := Ranges(b), p.ranges(); !slices.Equal(got, want) {
			t.Errorf("P2.3: Ranges(%q) is %v", p.text(), got)
		}
		if b != p.bits() {
			t.Errorf("R5: Ranges changed %q to %q", p.text(), Print(b))
		}
	}
	all := where(func(int) bool { return true }).bits()
	if got := Ranges(all); !slices.Equal(got, []api.Range{{From: 0, To: 16383}}) {
		t.Errorf("P2.3: Ranges of all slots is %v", got)
	}
	if got := Ranges(api.Bits{}); len(got) != 0 {
		t.Errorf("P2.3: Ranges of no slot is %v", got)
	}
}

func TestRangesAreTheCallers(t *testing.T) {
	b := of(3, 4, 9).bits()
	Ranges(b)[0] = api.Range{From: 100, To: 200}
	if got := Ranges(b); !slices.Equal(got, []api.Range{{From: 3, To: 4}, {From: 9, To: 9}}) {
		t.Errorf("R6: Ranges(3-4 9) is %v", got)
	}
}

// checkMake holds Make against the ranges' slots, put in one by one.
func checkMake(t *testing.T, l []api.Range) {
	t.Helper()
	var p plain
	for _, r := range l {
		for n := r.From; n <= r.To; n++ {
			p[n] = true
		}
	}
	was := slices.Clone(l)
	if got, e := Make(l); e != api.OK || got != p.bits() {
		t.Errorf("P2.3: Make(%v) is %q, %d; want %q", l, Print(got), e, p.text())
	}
	if !slices.Equal(l, was) {
		t.Errorf("R5: Make changed %v to %v", was, l)
	}
}

func TestMake(t *testing.T) {
	checkMake(t, nil)
	checkMake(t, []api.Range{})
	checkMake(t, []api.Range{{From: 0, To: 16383}})
	checkMake(t, []api.Range{{From: 3, To: 4}, {From: 5, To: 5}, {From: 9, To: 9}})
	checkMake(t, []api.Range{{From: 9, To: 9}, {From: 5, To: 5}, {From: 3, To: 4}})
	checkMake(t, []api.Range{{From: 100, To: 300}, {From: 200, To: 400}, {From: 150, To: 160}, {From: 100, To: 300}})
	checkMake(t, []api.Range{{From: 16383, To: 16383}, {From: 0, To: 0}})
	for _, from := range numbers {
		for _, to := range numbers {
			if from <= to {
				checkMake(t, []api.Range{{From: from, To: to}})
			}
		}
	}
	next := chance(4)
	for range 200 {
		var l []api.Range
		for range next() % 6 {
			from := int(next() % api.Slots)
			l = append(l, api.Range{From: from, To: min(from+int(next()%500), 16383)})
		}
		checkMake(t, l)
	}
}

func TestMakeOfWideRanges(t *testing.T) {
	l := slices.Repeat([]api.Range{{From: 0, To: 16383}}, 20000)
	if got, e := Make(l); e != api.OK || Print(got) != "0-16383" {
		t.Errorf("P2.3: all slots, many times: %q, %d", Print(got), e)
	}
}

func TestMakeRefuses(t *testing.T) {
	wrong := []api.Range{
		{From: -1, To: 3}, {From: -1, To: -1}, {From: 4, To: 3}, {From: 1, To: 0}, {From: 16383, To: 0}, {From: 5, To: -1},
		{From: 0, To: 16384}, {From: 16384, To: 16384}, {From: 16383, To: 16384}, {From: 20000, To: 30000},
		{From: math.MinInt, To: math.MaxInt}, {From: math.MaxInt, To: math.MinInt}, {From: 0, To: math.MaxInt},
		{From: math.MaxInt, To: math.MaxInt}, {From: math.MinInt, To: 0}, {From: math.MinInt, To: math.MinInt},
	}
	right := api.Range{From: 3, To: 70}
	for _, r := range wrong {
		for _, l := range [][]api.Range{{r}, {right, r}, {r, right}, {right, r, right}} {
			if got, e := Make(l); e != api.ErrSlotForm || got != (api.Bits{}) {
				t.Errorf("P2.3: Make(%v) is %q, %d; want ErrSlotForm and no slot", l, Print(got), e)
			}
		}
	}
}

func TestPrint(t *testing.T) {
	for _, p := range sets() {
		if got, want := Print(p.bits()), p.text(); got != want {
			t.Errorf("P2.4: Print is %q, want %q", got, want)
		}
	}
	cases := []struct {
		set  *plain
		want string
	}{
		{of(), ""},
		{of(0), "0"},
		{of(0, 1), "0-1"},
		{of(3, 4, 5, 9), "3-5 9"},
		{of(10, 100, 1000, 10000), "10 100 1000 10000"},
		{of(63, 64, 16382, 16383), "63-64 16382-16383"},
		{where(func(int) bool { return true }), "0-16383"},
	}
	for _, c := range cases {
		if got := Print(c.set.bits()); got != c.want {
			t.Errorf("P2.4: Print is %q, want %q", got, c.want)
		}
	}
}

func TestThereAndBack(t *testing.T) {
	for _, p := range sets() {
		b := p.bits()
		if got, e := Make(Ranges(b)); e != api.OK || got != b {
			t.Errorf("P2.5: Make of Ranges of %q is %q, %d", p.text(), Print(got), e)
		}
		if got, e := Parse(Print(b)); e != api.OK || got != b {
			t.Errorf("P2.5: Parse of Print of %q is %q, %d", p.text(), Print(got), e)
		}
		if got, e := Parse(p.text()); e != api.OK || got != b {
			t.Errorf("P2.4: Parse(%q) is %q, %d", p.text(), Print(got), e)
		}
	}
}

func TestParseRefuses(t *testing.T) {
	for _, s := range []string{
		" ", "  ", " 3", "3 ", "3  5", "3\t5", "3\n", "\n3", "3,5", "3-5,7", "a", "3a", "0x3", "1_0", "1e1", "3.0",
		"-", "--", "-3", "3-", "-3-5", "3--5", "3-5-7", "3-5-", "3 - 5", "3- 5", "3 -5", "+3", "3-+5", "-0", "0--0", "-5--3",
		"03", "00", "003", "3-05", "03-5", "000000000000000000003",
		"3-3", "5-3", "0-0", "16383-16383", "16383-0",
		"3 3", "9 3", "3 4", "3-5 6", "3-5 5", "3-5 4-9", "3 4-5", "3-5 3-5", "7-9 3-5", "0 1", "16382 16383",
		"16384", "0-16384", "16384-16385", "16383-16384", "65536", "65539", "99999", "3 16384",
		"9223372036854775807", "9223372036854775808", "18446744073709551616", "18446744073709551619", "4294967299", "0-4294967299",
		"3-18446744073709551621", "-9223372036854775808", strings.Repeat("9", 1000),
		"\x00", "3\x00", "３", "٣", "3–5", "3\u00a05", "\xff", "3 5 7 x", "x 3", "0-16383 ", "0-16383 0",
		strings.Repeat("3 ", 100000), strings.Repeat(" ", 100000), strings.Repeat("-", 100000),
	} {
		if got, e := Parse(s); e != api.ErrSlotForm || got != (api.Bits{}) {
			t.Errorf("P2.4: Parse(%.40q) is %q, %d; want ErrSlotForm and no slot", s, Print(got), e)
		}
	}
}

func TestParse(t *testing.T) {
	cases := []struct {
		text string
		want *plain
	}{
		{"", of()},
		{"0", of(0)},
		{"16383", of(16383)},
		{"0-1", of(0, 1)},
		{"0 2", of(0, 2)},
		{"3-5 9", of(3, 4, 5, 9)},
		{"3-5 7", of(3, 4, 5, 7)},
		{"16381 16383", of(16381, 16383)},
		{"0-16383", where(func(int) bool { return true })},
		{"0-8190 8192-16383", where(func(n int) bool { return n != 8191 })},
	}
	for _, c := range cases {
		if got, e := Parse(c.text); e != api.OK || got != c.want.bits() {
			t.Errorf("P2.4: Parse(%q) is %q, %d", c.text, Print(got), e)
		}
	}
}

// readLoosely takes more than Parse does; what of that Print writes back is all that Parse may take.
func readLoosely(s string) (*plain, bool) {
	var p plain
	for _, part := range strings.Fields(s) {
		first, second, two := strings.Cut(part, "-")
		if !two {
			second = first
		}
		from, err1 := strconv.Atoi(first)
		to, err2 := strconv.Atoi(second)
		if err1 != nil || err2 != nil || from < 0 || to >= api.Slots {
			return nil, false
		}
		for n := from; n <= to; n++ {
			p[n] = true
		}
	}
	return &p, true
}

func TestParseOfAllShortTexts(t *testing.T) {
	for _, s := range words("013- ", 7) {
		p, ok := readLoosely(s)
		ok = ok && p.text() == s
		var want api.Bits
		errno := api.ErrSlotForm
		if ok {
			want, errno = p.bits(), api.OK
		}
		if got, e := Parse(s); e != errno || got != want {
			t.Fatalf("P2.4: Parse(%q) is %q, %d; want %v", s, Print(got), e, errno)
		}
	}
}

func TestTheSameAgain(t *testing.T) {
	l := []api.Range{{From: 5, To: 5}, {From: 3, To: 4}, {From: 9, To: 9}}
	b, _ := Make(l)
	l[0] = api.Range{From: 1000, To: 2000}
	if Print(b) != "3-5 9" || Print(b) != "3-5 9" {
		t.Errorf("R6, R7: %q", Print(b))
	}
	for range 3 {
		if got, e := Parse("3-5 9"); got != b || e != api.OK || Of("foo") != 12182 || Count(b) != 4 {
			t.Errorf("R7: Parse is %q, %d; Of %d; Count %d", Print(got), e, Of("foo"), Count(b))
		}
	}
}
