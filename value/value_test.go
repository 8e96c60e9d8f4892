package value

import (
	"math"
	"reflect"
	"slices"
	"strconv"
	"strings"
	"testing"

	"marshalyard/api"
)

// chance is a row of numbers that look like chance, the same at every run.
type chance uint64

func (c *chance) below(n int) int {
	*c = *c*6364136223846793005 + 1442695040888963407
	return int(uint64(*c)>>33) % n
}

// The plain model: the chapter's sentences word by word, without any other layer.

func plainRight(v api.Value) bool {
	fields := 0
	for _, set := range []bool{v.Text != "", len(v.Pairs) > 0, len(v.Items) > 0, v.Point != api.Point{}} {
		if set {
			fields++
		}
	}
	switch v.Kind {
	case 1:
		return len(v.Text) <= 4096 && (fields == 0 || fields == 1 && v.Text != "")
	case 2:
		for i, p := range v.Pairs {
			if len(p.Name) > 1024 || len(p.Value) > 1024 || i > 0 && v.Pairs[i-1].Name >= p.Name {
				return false
			}
		}
		return fields == 1 && len(v.Pairs) >= 1 && len(v.Pairs) <= 256
	case 3, 4:
		for i, s := range v.Items {
			if len(s) > 1024 || v.Kind == 4 && i > 0 && v.Items[i-1] >= s {
				return false
			}
		}
		return fields == 1 && len(v.Items) >= 1 && len(v.Items) <= 256
	case 5:
		p := v.Point
		return p.Re >= -1048576 && p.Re <= 1048576 && p.Im >= -1048576 && p.Im <= 1048576 && (fields == 0 || fields == 1 && p != api.Point{})
	}
	return false
}

// plainSum divides bit by bit.
func plainSum(s string) int {
	c := 0
	for i := range len(s) {
		for bit := 7; bit >= 0; bit-- {
			c = c<<1 ^ int(s[i])>>bit&1<<16
			if c&0x10000 != 0 {
				c ^= 0x11021
			}
		}
	}
	return c
}

func two(n int) string { return string([]byte{byte(n / 256), byte(n % 256)}) }

func four(n int) string {
	if n < 0 {
		n += 1 << 32
	}
	return two(n/65536) + two(n%65536)
}

func counted(s string) string { return two(len(s)) + s }

func summed(body string) string { return body + two(plainSum(body)) }

// plainBody is all of a dump but the sum.
func plainBody(v api.Value) string {
	var b strings.Builder
	b.WriteByte(byte(v.Kind))
	switch v.Kind {
	case 1:
		b.WriteString(counted(v.Text))
	case 2:
		b.WriteString(two(len(v.Pairs)))
		for _, p := range v.Pairs {
			b.WriteString(counted(p.Name) + counted(p.Value))
		}
	case 3, 4:
		b.WriteString(two(len(v.Items)))
		for _, s := range v.Items {
			b.WriteString(counted(s))
		}
	case 5:
		b.WriteString(four(v.Point.Re) + four(v.Point.Im))
	}
	return b.String()
}

// plainRead reads a body strictly, place by place; false, if it is none's.
func plainRead(body string) (api.Value, bool) {
	at, short := 0, false
	number := func(bytes int) int {
		n := 0
		for range bytes {
			if at >= len(body) {
				short = true
				return 0
			}
			n = n*256 + int(body[at])
			at++
		}
		return n
	}
	text := func() string {
		n := number(2)
		if at+n > len(body) {
			short = true
			return ""
		}
		at += n
		return body[at-n : at]
	}
	part := func() int {
		n := number(4)
		if n >= 1<<31 {
			n -= 1 << 32
		}
		return n
	}
	v := api.Value{Kind: number(1)}
	switch v.Kind {
	case 1:
		v.Text = text()
	case 2:
		for n := number(2); n > 0 && !short; n-- {
			name := text()
			v.Pairs = append(v.Pairs, api.Pair{Name: name, Value: text()})
		}
	case 3, 4:
		for n := number(2); n > 0 && !short; n-- {
			v.Items = append(v.Items, text())
		}
	case 5:
		v.Point.Re = part()
		v.Point.Im = part()
	}
	return v, !short && at == len(body) && plainRight(v)
}

// checkValue holds all calls of one value against the plain model.
func checkValue(t *testing.T, v api.Value) {
	t.Helper()
	is := plainRight(v)
	if Right(v) != is {
		t.Fatalf("P10.1: Right(%s): %v", brief(v), Right(v))
	}
	want := ""
	if is {
		want = summed(plainBody(v))
	}
	if s, ok := Dump(v); s != want || ok != is {
		t.Fatalf("P10.2: Dump(%s): %.60q, %v", brief(v), s, ok)
	}
	if n := Size(v); n != len(want) {
		t.Fatalf("P10.4: Size(%s): %d, not %d", brief(v), n, len(want))
	}
	if !is {
		return
	}
	if back, e := Load(want); !reflect.DeepEqual(emptied(back), emptied(v)) || e != api.OK {
		t.Fatalf("P10.5: Load of the Dump of %s: %s, %d", brief(v), brief(back), e)
	}
}

// emptied is v with no list where one is empty: R3 does not tell them apart, reflect does.
func emptied(v api.Value) api.Value {
	if len(v.Pairs) == 0 {
		v.Pairs = nil
	}
	if len(v.Items) == 0 {
		v.Items = nil
	}
	return v
}

func brief(v api.Value) string {
	return "Kind " + strconv.Itoa(v.Kind) + ", Text of " + strconv.Itoa(len(v.Text)) + ", " + strconv.Itoa(len(v.Pairs)) + " Pairs, " +
		strconv.Itoa(len(v.Items)) + " Items, Point " + strconv.Itoa(v.Point.Re) + " " + strconv.Itoa(v.Point.Im)
}

// checkLoad holds Load of a body with its sum right against the plain reader; it tells whether it is a value's.
func checkLoad(t *testing.T, body string) bool {
	t.Helper()
	want, is := plainRead(body)
	v, e := Load(summed(body))
	if !is {
		if !reflect.DeepEqual(v, api.Value{}) || e != api.ErrValueForm {
			t.Fatalf("P10.3: Load of %.80q with its sum: %s, %d", body, brief(v), e)
		}
		return false
	}
	if !reflect.DeepEqual(v, want) || e != api.OK {
		t.Fatalf("P10.3: Load of %.80q with its sum: %s, %d, not %s", body, brief(v), e, brief(want))
	}
	if s, ok := Dump(v); s != summed(body) || !ok {
		t.Fatalf("P10.5: Dump of what Load of %.80q told: %.80q, %v", body, s, ok)
	}
	return true
}

// rising are n texts that rise.
func rising(n int) []string {
	var all []string
	for i := range n {
		all = append(all, string([]byte{'x', byte(i >> 8), byte(i)}))
	}
	return all
}

func pairsOf(names []string) []api.Pair {
	var all []api.Pair
	for i, s := range names {
		all = append(all, api.Pair{Name: s, Value: strconv.Itoa(i)})
	}
	return all
}

var edgeKinds = []int{math.MinInt, math.MinInt + 1, -256, -255, -1, 0, 1, 2, 3, 4, 5, 6, 7, 255, 256, 257, 258, 259, 260, 261, 1<<32 + 1, math.MaxInt}

func edgeTexts() []string {
	return []string{"", "a", "\x00", strings.Repeat("a", 1024), strings.Repeat("a", 1025), strings.Repeat("b", 4095), strings.Repeat("b", 4096), strings.Repeat("b", 4097), strings.Repeat("b", 65536), strings.Repeat("b", 65537)}
}

func edgeItems() [][]string {
	most := strings.Repeat("m", 1024)
	return [][]string{
		nil, {}, {""}, {"a"}, {"a", "b"}, {"b", "a"}, {"a", "a"}, {"", ""}, {"", "a"}, {"a", ""}, {"a", "b", "b"}, {"a", "a", "b"}, {"a", "c", "b"},
		{"a", "aa"}, {"aa", "a"}, {"\x7f", "\x80"}, {"\x80", "\x7f"}, {"\xff", "\xff\x00"}, {"Z", "a"},
		{most}, {most + "m"}, {"a", most}, {"a", most + "m"}, {most + "m", "z"}, {most[1:], most},
		rising(255), rising(256), rising(257), rising(512), append(rising(255), "x"), append(rising(256), "x"),
		slices.Repeat([]string{most}, 256), slices.Repeat([]string{most}, 257), slices.Repeat([]string{""}, 256), slices.Repeat([]string{""}, 257),
	}
}

func edgePairs() [][]api.Pair {
	most := strings.Repeat("m", 1024)
	all := [][]api.Pair{
		{}, {{}}, {{Name: "a"}}, {{Value: "a"}},
		{{Name: "a", Value: "z"}, {Name: "b", Value: "a"}}, {{Name: "a", Value: "a"}, {Name: "b", Value: "a"}}, {{Name: "a", Value: "a"}, {Name: "a", Value: "b"}},
		{{Name: "a", Value: most}}, {{Name: "a", Value: most + "m"}}, {{Name: most, Value: most}}, {{Name: most + "m", Value: ""}},
		{{Name: "a", Value: ""}, {Name: "b", Value: most + "m"}}, {{Name: "a", Value: most + "m"}, {Name: "b", Value: ""}},
	}
	for _, names := range edgeItems() {
		all = append(all, pairsOf(names))
	}
	return all
}

var edgeParts = []int{0, 1, -1, 255, 256, -256, 65535, 65536, -65536, 1048575, 1048576, 1048577, -1048575, -1048576, -1048577, 1<<31 - 1, 1 << 31, -1 << 31, 1 << 32, -1 << 32, 1<<32 + 1, math.MaxInt, math.MinInt}

// Each field by itself, at its edges, under each Kind.
func TestEachFieldAtItsEdges(t *testing.T) {
	for _, kind := range edgeKinds {
		for _, s := range edgeTexts() {
			checkValue(t, api.Value{Kind: kind, Text: s})
		}
		for _, l := range edgeItems() {
			checkValue(t, api.Value{Kind: kind, Items: l})
		}
		for _, l := range edgePairs() {
			checkValue(t, api.Value{Kind: kind, Pairs: l})
		}
		for _, re := range edgeParts {
			for _, im := range edgeParts {
				checkValue(t, api.Value{Kind: kind, Point: api.Point{Re: re, Im: im}})
			}
		}
	}
}

// Fields that the Kind does not use, beside what it uses and without it.
func TestFieldsThatTheKindDoesNotUse(t *testing.T) {
	for _, kind := range edgeKinds {
		for _, text := range []string{"", "a", "\x00"} {
			for _, pairs := range [][]api.Pair{nil, {}, {{}}, {{Name: "a", Value: "b"}}} {
				for _, items := range [][]string{nil, {}, {""}, {"a", "b"}} {
					for _, p := range []api.Point{{}, {Re: 1}, {Im: -1}, {Re: 1 << 21}} {
						checkValue(t, api.Value{Kind: kind, Text: text, Pairs: pairs, Items: items, Point: p})
					}
				}
			}
		}
	}
}

// The bounds, told by hand.
func TestWhatMayBe(t *testing.T) {
	for _, v := range []api.Value{
		{Kind: api.KindText}, {Kind: api.KindText, Text: strings.Repeat("a", 4*api.MaxBulk)},
		{Kind: api.KindText, Text: "a", Pairs: []api.Pair{}, Items: []string{}},
		{Kind: api.KindHash, Pairs: []api.Pair{{}}}, {Kind: api.KindHash, Pairs: pairsOf(rising(api.MaxItems))},
		{Kind: api.KindHash, Pairs: []api.Pair{{Name: strings.Repeat("a", api.MaxBulk), Value: strings.Repeat("a", api.MaxBulk)}}},
		{Kind: api.KindList, Items: []string{""}}, {Kind: api.KindList, Items: []string{"b", "a", "a"}}, {Kind: api.KindList, Items: slices.Repeat([]string{"a"}, api.MaxItems)},
		{Kind: api.KindSet, Items: []string{""}}, {Kind: api.KindSet, Items: rising(api.MaxItems)}, {Kind: api.KindSet, Items: []string{strings.Repeat("a", api.MaxBulk)}},
		{Kind: api.KindPoint}, {Kind: api.KindPoint, Point: api.Point{Re: api.MaxPart, Im: -api.MaxPart}},
	} {
		if !Right(v) {
			t.Errorf("P10.1: %s is Right", brief(v))
		}
	}
	for _, v := range []api.Value{
		{}, {Kind: -1}, {Kind: 6}, {Kind: math.MinInt}, {Kind: math.MaxInt}, {Kind: -1, Text: "a"}, {Kind: 6, Items: []string{"a"}}, {Kind: 257, Text: "a"},
		{Kind: api.KindText, Text: strings.Repeat("a", 4*api.MaxBulk+1)}, {Kind: api.KindText, Items: []string{""}}, {Kind: api.KindText, Pairs: []api.Pair{{}}}, {Kind: api.KindText, Point: api.Point{Im: 1}},
		{Kind: api.KindHash}, {Kind: api.KindHash, Pairs: []api.Pair{}}, {Kind: api.KindHash, Pairs: pairsOf(rising(api.MaxItems + 1))},
		{Kind: api.KindHash, Pairs: []api.Pair{{Name: "b"}, {Name: "a"}}}, {Kind: api.KindHash, Pairs: []api.Pair{{Name: "a"}, {Name: "a", Value: "b"}}},
		{Kind: api.KindHash, Pairs: []api.Pair{{Name: strings.Repeat("a", api.MaxBulk+1)}}}, {Kind: api.KindHash, Pairs: []api.Pair{{Value: strings.Repeat("a", api.MaxBulk+1)}}},
		{Kind: api.KindHash, Items: []string{"a"}},
		{Kind: api.KindList}, {Kind: api.KindList, Items: []string{}}, {Kind: api.KindList, Items: slices.Repeat([]string{"a"}, api.MaxItems+1)}, {Kind: api.KindList, Items: []string{strings.Repeat("a", api.MaxBulk+1)}},
		{Kind: api.KindList, Items: []string{"a"}, Text: "a"},
		{Kind: api.KindSet}, {Kind: api.KindSet, Items: []string{}}, {Kind: api.KindSet, Items: []string{"b", "a"}}, {Kind: api.KindSet, Items: []string{"a", "a"}}, {Kind: api.KindSet, Items: rising(api.MaxItems + 1)}, {Kind: api.KindSet, Items: []string{strings.Repeat("a", api.MaxBulk+1)}},
		{Kind: api.KindPoint, Point: api.Point{Re: api.MaxPart + 1}}, {Kind: api.KindPoint, Point: api.Point{Im: -api.MaxPart - 1}}, {Kind: api.KindPoint, Text: "0+0i"},
	} {
		if Right(v) {
			t.Errorf("P10.1: %s is not Right", brief(v))
		}
		if s, ok := Dump(v); s != "" || ok || Size(v) != 0 {
			t.Errorf("P10.2, P10.4: Dump(%s): %.40q, %v; Size %d", brief(v), s, ok, Size(v))
		}
	}
}

// The bytes, told by hand.
func TestDumpByHand(t *testing.T) {
	for body, v := range map[string]api.Value{
		"\x01\x00\x00":   {Kind: api.KindText},
		"\x01\x00\x02ab": {Kind: api.KindText, Text: "ab"},
		"\x01\x10\x00" + strings.Repeat("z", 4096):                  {Kind: api.KindText, Text: strings.Repeat("z", 4096)},
		"\x02\x00\x02\x00\x00\x00\x01v\x00\x02na\x00\x00":           {Kind: api.KindHash, Pairs: []api.Pair{{Name: "", Value: "v"}, {Name: "na", Value: ""}}},
		"\x03\x01\x00" + strings.Repeat("\x00\x01q", 256):           {Kind: api.KindList, Items: slices.Repeat([]string{"q"}, 256)},
		"\x04\x00\x02\x00\x01a\x04\x00" + strings.Repeat("b", 1024): {Kind: api.KindSet, Items: []string{"a", strings.Repeat("b", 1024)}},
		"\x05\x00\x00\x00\x00\x00\x00\x00\x00":                      {Kind: api.KindPoint},
		"\x05\x00\x10\x00\x00\xff\xf0\x00\x00":                      {Kind: api.KindPoint, Point: api.Point{Re: 1048576, Im: -1048576}},
		"\x05\xff\xff\xff\xfe\x00\x01\x02\x03":                      {Kind: api.KindPoint, Point: api.Point{Re: -2, Im: 66051}},
	} {
		want := summed(body)
		if s, ok := Dump(v); s != want || !ok || Size(v) != len(want) {
			t.Errorf("P10.2: Dump(%s): %.60q, %v, not %.60q", brief(v), s, ok, want)
		}
		if got, e := Load(want); !reflect.DeepEqual(got, v) || e != api.OK {
			t.Errorf("P10.3: Load(%.60q): %s, %d", want, brief(got), e)
		}
	}
	// The sum 31c3 of 123456789 is known: the higher byte stands first.
	if two(plainSum("123456789")) != "\x31\xc3" {
		t.Error("the plain sum is another one")
	}
}

// value is any Right one: short, or of as many things as there may be.
func (c *chance) value() api.Value {
	v := api.Value{Kind: 1 + c.below(5)}
	switch v.Kind {
	case api.KindText:
		v.Text = c.text(4096)
	case api.KindHash:
		for _, name := range c.set() {
			v.Pairs = append(v.Pairs, api.Pair{Name: name, Value: c.text(1024)})
		}
	case api.KindSet:
		v.Items = c.set()
	case api.KindList:
		for range c.many() {
			v.Items = append(v.Items, c.text(1024))
		}
	case api.KindPoint:
		v.Point = api.Point{Re: c.below(2097153) - 1048576, Im: c.below(2097153) - 1048576}
	}
	return v
}

func (c *chance) many() int {
	if c.below(10) == 0 {
		return 200 + c.below(57)
	}
	return 1 + c.below(6)
}

func (c *chance) text(most int) string {
	b := make([]byte, c.below(4))
	if c.below(20) == 0 {
		b = make([]byte, c.below(most+1))
	}
	for i := range b {
		b[i] = byte(c.below(256))
	}
	return string(b)
}

func (c *chance) set() []string {
	var all []string
	for range c.many() {
		all = append(all, c.text(1024))
	}
	slices.Sort(all)
	return slices.Compact(all)
}

func TestAnyValuesThereAndBack(t *testing.T) {
	c := chance(101)
	for range 5000 {
		checkValue(t, c.value())
	}
}

// All that are shorter than a Kind and a sum.
func TestTooFewBytes(t *testing.T) {
	refuse := func(s string) {
		if v, e := Load(s); !reflect.DeepEqual(v, api.Value{}) || e != api.ErrValueForm {
			t.Fatalf("P10.3: Load(%q): %s, %d", s, brief(v), e)
		}
	}
	refuse("")
	for i := range 256 {
		refuse(string([]byte{byte(i)}))
		for j := range 256 {
			refuse(string([]byte{byte(i), byte(j)}))
		}
	}
}

// Of three bytes and more, the sum is asked ahead of the form.
func TestEachSumButOne(t *testing.T) {
	for _, body := range []string{"\x00", "\x01", "\x06", "\xff", "\x01\x00", "\x01\x00\x00", "\x01\x00\x02ab", "\x01\x00\x03ab", "\x05\x00\x00\x00\x01\xff\xff\xff\xff", "\x04\x00\x02\x00\x01b\x00\x01a"} {
		right := plainSum(body)
		for sum := range 65536 {
			if sum == right {
				checkLoad(t, body)
				continue
			}
			if v, e := Load(body + two(sum)); !reflect.DeepEqual(v, api.Value{}) || e != api.ErrValueSum {
				t.Fatalf("P10.3: Load of %q with the sum %x: %s, %d", body, sum, brief(v), e)
			}
		}
	}
	// A sum with its bytes the other way round is not right.
	s := "\x01\x00\x02ab"
	sum := plainSum(s)
	if _, e := Load(s + two(sum%256*256+sum/256)); e != api.ErrValueSum {
		t.Error("P10.3: the lower byte first:", e)
	}
}

// All bodies of up to 7 bytes out of a few, with their sums.
func TestAllShortBodies(t *testing.T) {
	few := "\x00\x01\x02\x03\x04a"
	bodies := []string{""}
	values := 0
	for range 7 {
		var longer []string
		for _, b := range bodies {
			for j := range len(few) {
				longer = append(longer, b+few[j:j+1])
			}
		}
		for _, b := range longer {
			if checkLoad(t, b) {
				values++
			}
		}
		bodies = longer
	}
	if values < 1000 {
		t.Error("too few of the bodies are values':", values)
	}
}

// Bytes near those that Dump writes: one missing, one more, one changed, cut off, doubled; each with its sum right.
func TestBytesNearDumps(t *testing.T) {
	values := []api.Value{
		{Kind: api.KindText}, {Kind: api.KindText, Text: "ab"}, {Kind: api.KindText, Text: "\x01\x00\x02ab"},
		{Kind: api.KindHash, Pairs: []api.Pair{{Name: "a", Value: "b"}}}, {Kind: api.KindHash, Pairs: []api.Pair{{Name: "a", Value: "b"}, {Name: "b", Value: ""}, {Name: "c", Value: "a"}}},
		{Kind: api.KindList, Items: []string{"b", "a", "", "a"}}, {Kind: api.KindList, Items: []string{""}},
		{Kind: api.KindSet, Items: []string{"", "a", "b", "ba"}}, {Kind: api.KindSet, Items: []string{"a", "b"}},
		{Kind: api.KindPoint}, {Kind: api.KindPoint, Point: api.Point{Re: 1048576, Im: -1048576}}, {Kind: api.KindPoint, Point: api.Point{Re: -1, Im: 1}},
	}
	read, refused := 0, 0
	check := func(body string) {
		t.Helper()
		if body == "" {
			return
		}
		if checkLoad(t, body) {
			read++
		} else {
			refused++
		}
	}
	for _, v := range values {
		body := plainBody(v)
		check(body)
		check(body + body)
		for i := range len(body) {
			check(body[:i])
			check(body[i:])
			check(body[:i] + body[i+1:])
			for x := range 256 {
				check(body[:i] + string([]byte{byte(x)}) + body[i:])
				check(body[:i] + string([]byte{byte(x)}) + body[i+1:])
			}
		}
		for x := range 256 {
			check(body + string([]byte{byte(x)}))
		}
	}
	if read < 5000 || refused < 20000 {
		t.Error("near ones that are values' and that are not:", read, refused)
	}
}

// Bodies of the bounds, with their sums: what Dump never writes is refused.
func TestBodiesAtTheBounds(t *testing.T) {
	most := strings.Repeat("m", 1024)
	for body, want := range map[string]bool{
		"\x01" + counted(strings.Repeat("a", 4096)):  true,
		"\x01" + counted(strings.Repeat("a", 4097)):  false,
		"\x01" + counted(strings.Repeat("a", 65535)): false,
		"\x02" + two(0): false,
		"\x02" + two(1) + counted(most) + counted(most):                            true,
		"\x02" + two(1) + counted(most+"m") + counted(""):                          false,
		"\x02" + two(1) + counted("") + counted(most+"m"):                          false,
		"\x02" + two(1) + counted("a"):                                             false,
		"\x02" + two(2) + counted("b") + counted("") + counted("a") + counted(""):  false,
		"\x02" + two(2) + counted("a") + counted("") + counted("a") + counted("b"): false,
		"\x02" + two(1) + counted("a") + counted("") + counted("b") + counted(""):  false,
		"\x02" + two(3) + counted("a") + counted("") + counted("b") + counted(""):  false,
		plainBody(api.Value{Kind: 2, Pairs: pairsOf(rising(256))}):                 true,
		plainBody(api.Value{Kind: 2, Pairs: pairsOf(rising(257))}):                 false,
		"\x03" + two(0):                                     false,
		"\x03" + two(1) + counted(most):                     true,
		"\x03" + two(1) + counted(most+"m"):                 false,
		"\x03" + two(256) + strings.Repeat(two(0), 256):     true,
		"\x03" + two(257) + strings.Repeat(two(0), 257):     false,
		"\x03" + two(257) + strings.Repeat(two(0), 256):     false,
		"\x03" + two(256) + strings.Repeat(two(0), 257):     false,
		"\x03" + two(65535) + strings.Repeat(two(0), 65535): false,
		"\x03" + two(65535):                                 false,
		"\x03" + two(2) + counted("b") + counted("a"):       true,
		"\x04" + two(0):                                     false,
		"\x04" + two(2) + counted("b") + counted("a"):       false,
		"\x04" + two(2) + counted("a") + counted("a"):       false,
		"\x04" + two(2) + counted("a") + counted("aa"):      true,
		"\x04" + two(1) + counted(most+"m"):                 false,
		plainBody(api.Value{Kind: 4, Items: rising(256)}):   true,
		plainBody(api.Value{Kind: 4, Items: rising(257)}):   false,
		"\x05" + four(1048576) + four(-1048576):             true,
		"\x05" + four(1048577) + four(0):                    false,
		"\x05" + four(0) + four(-1048577):                   false,
		"\x05" + four(1<<31-1) + four(0):                    false,
		"\x05" + four(0) + four(-1<<31):                     false,
		"\x05" + four(0) + four(0) + "\x00":                 false,
		"\x05" + four(0) + "\x00\x00\x00":                   false,
		"\x05" + four(0):                                    false,
		"\x05":                                              false,
		"\x00" + counted("a"):                               false,
		"\x06" + counted("a"):                               false,
		"\xff" + counted("a"):                               false,
		"\x00":                                              false,
		"\x01":                                              false,
		"\x01\x00":                                          false,
		"\x01" + two(3) + "ab":                              false,
		"\x01" + two(1) + "ab":                              false,
		"\x01" + two(65535) + "ab":                          false,
	} {
		if got := checkLoad(t, body); got != want {
			t.Errorf("P10.3: Load of %.40q with its sum: %v, not %v", body, got, want)
		}
	}
}

func TestAnyBytes(t *testing.T) {
	c := chance(102)
	for range 200000 {
		b := make([]byte, 1+c.below(20))
		for i := range b {
			b[i] = byte(c.below(256))
			if c.below(2) == 0 {
				b[i] = byte(c.below(6))
			}
		}
		body := string(b)
		checkLoad(t, body)
		sum := c.below(65536)
		if sum == plainSum(body) {
			continue
		}
		if v, e := Load(body + two(sum)); !reflect.DeepEqual(v, api.Value{}) || e != api.ErrValueSum {
			t.Fatalf("P10.3: Load of %q with another sum: %s, %d", body, brief(v), e)
		}
	}
}

// turned is s with those bits turned that pattern says; the bit 15 of it stands at the bit at of s, those lower behind it. False, if one would stand beyond the end.
func turned(s string, at, pattern int) (string, bool) {
	b := []byte(s)
	for bit := range 16 {
		if pattern>>(15-bit)&1 == 0 {
			continue
		}
		if at+bit >= 8*len(b) {
			return "", false
		}
		b[(at+bit)/8] ^= 1 << (7 - (at+bit)%8)
	}
	return string(b), true
}

func checkTurned(t *testing.T, s string, at, pattern int) {
	t.Helper()
	wrong, is := turned(s, at, pattern)
	if !is {
		return
	}
	if v, e := Load(wrong); !reflect.DeepEqual(v, api.Value{}) || e != api.ErrValueSum {
		t.Fatalf("P10.5: Load of %.40q, turned at %d by %x: %s, %d", s, at, pattern, brief(v), e)
	}
}

// Each pattern of bits within 16 that stand in a row, at every place of short dumps.
func TestBitsTurnedWithinSixteen(t *testing.T) {
	for _, v := range []api.Value{{Kind: api.KindText, Text: "ab"}, {Kind: api.KindSet, Items: []string{""}}} {
		s, _ := Dump(v)
		for at := range 8 * len(s) {
			for pattern := 1 << 15; pattern < 1<<16; pattern++ {
				checkTurned(t, s, at, pattern)
			}
		}
	}
}

// Of all kinds and of longer dumps, some patterns at every place.
func TestBitsTurnedInLongerDumps(t *testing.T) {
	c := chance(103)
	for range 60 {
		s, _ := Dump(c.value())
		if len(s) > 300 {
			continue
		}
		for at := range 8 * len(s) {
			checkTurned(t, s, at, 1<<15)
			checkTurned(t, s, at, 1<<16-1)
			for range 10 {
				checkTurned(t, s, at, 1<<15|c.below(1<<15))
			}
		}
	}
	s, _ := Dump(api.Value{Kind: api.KindHash, Pairs: pairsOf(rising(256))})
	for range 2000 {
		checkTurned(t, s, c.below(8*len(s)), 1<<15|c.below(1<<15))
	}
}

func TestType(t *testing.T) {
	names := map[int]string{1: "string", 2: "hash", 3: "list", 4: "set", 5: "point"}
	for _, kind := range append(edgeKinds, 8, 100, -2, -5) {
		want := names[kind]
		if want == "" {
			want = "none"
		}
		// The Kind alone counts, also of a value that is not Right.
		for _, v := range []api.Value{{Kind: kind}, {Kind: kind, Text: "hash"}, {Kind: kind, Items: []string{"b", "a"}, Point: api.Point{Re: 1 << 30}}} {
			if Type(v) != want {
				t.Errorf("P10.4: Type(%s): %q, not %q", brief(v), Type(v), want)
			}
		}
	}
}

// unlike are values of which no two are the same, Right or not: each differs from another one in one field.
func unlike() []api.Value {
	all := []api.Value{
		{}, {Kind: 1}, {Kind: 2}, {Kind: 3}, {Kind: 4}, {Kind: 5}, {Kind: 6}, {Kind: -1}, {Kind: 257}, {Kind: math.MinInt}, {Kind: math.MaxInt},
		{Text: "a"}, {Text: "b"}, {Text: "A"}, {Text: "a\x00"}, {Text: "aa"}, {Text: "\xff"}, {Text: "\xfe"},
		{Pairs: []api.Pair{{}}}, {Pairs: []api.Pair{{}, {}}}, {Pairs: []api.Pair{{Name: "a"}}}, {Pairs: []api.Pair{{Value: "a"}}}, {Pairs: []api.Pair{{Name: "a", Value: "b"}}}, {Pairs: []api.Pair{{Name: "b", Value: "a"}}}, {Pairs: []api.Pair{{Name: "ab"}}},
		{Pairs: []api.Pair{{Name: "a"}, {Name: "b"}}}, {Pairs: []api.Pair{{Name: "b"}, {Name: "a"}}}, {Pairs: []api.Pair{{Name: "a"}, {Name: "b", Value: "x"}}},
		{Items: []string{""}}, {Items: []string{"", ""}}, {Items: []string{"a"}}, {Items: []string{"b"}}, {Items: []string{"a", "b"}}, {Items: []string{"b", "a"}}, {Items: []string{"ab"}}, {Items: []string{"ab", ""}}, {Items: []string{"", "ab"}}, {Items: []string{"a", "b", "c"}}, {Items: []string{"a", "b", "d"}},
		{Point: api.Point{Re: 1}}, {Point: api.Point{Im: 1}}, {Point: api.Point{Re: -1}}, {Point: api.Point{Re: 1, Im: 1}}, {Point: api.Point{Re: 1 << 32}}, {Point: api.Point{Im: math.MinInt}},
	}
	full := api.Value{Kind: 4, Text: "t", Pairs: []api.Pair{{Name: "n", Value: "v"}}, Items: []string{"i", "j"}, Point: api.Point{Re: 2, Im: 3}}
	all = append(all, full)
	for field := range 7 {
		v := Copy(full)
		switch field {
		case 0:
			v.Kind = 3
		case 1:
			v.Text = "u"
		case 2:
			v.Pairs[0].Name = "m"
		case 3:
			v.Pairs[0].Value = "w"
		case 4:
			v.Items[1] = "k"
		case 5:
			v.Point.Re = 4
		case 6:
			v.Point.Im = 4
		}
		all = append(all, v)
	}
	return all
}

func TestSameTellsFieldsApart(t *testing.T) {
	all, again := unlike(), unlike()
	for i, a := range all {
		for j, b := range again {
			if Same(a, b) != (i == j) {
				t.Errorf("P10.4: Same of %v and %v: %v", a, b, Same(a, b))
			}
		}
	}
	// R3: an empty list is as good as none.
	none, empty := api.Value{Kind: 1}, api.Value{Kind: 1, Pairs: []api.Pair{}, Items: []string{}}
	if !Same(none, empty) || !Same(empty, none) || !Same(empty, empty) {
		t.Error("P10.4: empty lists and none are told apart")
	}
}

func TestCopyInMemoryOfItsOwn(t *testing.T) {
	c := chance(104)
	all := unlike()
	for range 300 {
		all = append(all, c.value())
	}
	for _, v := range all {
		kept := plainCopy(v)
		w := Copy(v)
		if !reflect.DeepEqual(emptied(w), emptied(kept)) || !Same(v, w) {
			t.Fatalf("P10.4: Copy(%s): %s", brief(v), brief(w))
		}
		scribble(&w)
		if !reflect.DeepEqual(v, kept) {
			t.Fatalf("P10.4: %s has changed with its Copy", brief(kept))
		}
		w = Copy(v)
		scribble(&v)
		if !reflect.DeepEqual(emptied(w), emptied(kept)) {
			t.Fatalf("P10.4: the Copy of %s has changed with it", brief(kept))
		}
	}
}

func plainCopy(v api.Value) api.Value {
	w := api.Value{Kind: v.Kind, Text: v.Text, Point: v.Point}
	for _, p := range v.Pairs {
		w.Pairs = append(w.Pairs, p)
	}
	for _, s := range v.Items {
		w.Items = append(w.Items, s)
	}
	return w
}

// scribble writes into all that v has, and into the room behind its lists.
func scribble(v *api.Value) {
	for i := range v.Pairs {
		v.Pairs[i] = api.Pair{Name: "?", Value: "!"}
	}
	for i := range v.Items {
		v.Items[i] = "?"
	}
	pairs := v.Pairs[:cap(v.Pairs)]
	for i := len(v.Pairs); i < len(pairs); i++ {
		pairs[i] = api.Pair{Name: "behind"}
	}
	items := v.Items[:cap(v.Items)]
	for i := len(v.Items); i < len(items); i++ {
		items[i] = "behind"
	}
}

// A list with room behind it: a Copy takes none of that room along.
func TestCopyOfAListWithRoom(t *testing.T) {
	room := []string{"a", "b", "c", "d"}
	v := api.Value{Kind: api.KindList, Items: room[:2]}
	w := Copy(v)
	_ = append(w.Items, "x")
	_ = append(v.Items, "y")
	if !slices.Equal(room, []string{"a", "b", "y", "d"}) || !slices.Equal(w.Items, []string{"a", "b"}) {
		t.Error("P10.4:", room, w.Items)
	}
}

func TestNothingElseChanges(t *testing.T) {
	v := api.Value{Kind: api.KindHash, Pairs: []api.Pair{{Name: "a", Value: "1"}, {Name: "b", Value: "2"}}}
	w := api.Value{Kind: api.KindSet, Items: []string{"a", "b"}}
	wrong := api.Value{Kind: api.KindSet, Items: []string{"b", "a"}, Pairs: []api.Pair{{Name: "b"}, {Name: "a"}}}
	for _, x := range []api.Value{v, w, wrong} {
		kept := plainCopy(x)
		Right(x)
		Dump(x)
		Size(x)
		Type(x)
		Same(x, v)
		Copy(x)
		if !reflect.DeepEqual(x, kept) {
			t.Error("R5:", x, "was", kept)
		}
	}
	for _, x := range []api.Value{v, w} {
		s, _ := Dump(x)
		first, _ := Load(s)
		second, _ := Load(s)
		scribble(&first)
		if !Same(second, x) {
			t.Error("R6: what a Load told has changed with another:", second)
		}
		if again, e := Load(s); !Same(again, x) || e != api.OK {
			t.Error("R7:", again, e)
		}
	}
}
