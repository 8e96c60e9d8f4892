package keyspace

import (
	"math"
	"slices"
	"strconv"
	"strings"
	"testing"

	"marshalyard/api"
	"marshalyard/slot"
	"marshalyard/value"
)

// plain is a space as the chapter tells it: a list of entries, in no order, and nothing that is reckoned ahead.
type plain struct {
	room, clock int
	entries     []api.Entry
}

// plainBytes are those of a Right value's dump, counted by chapter 10's sentences.
func plainBytes(v api.Value) int {
	n := 1 + 2
	switch v.Kind {
	case api.KindText:
		n += 2 + len(v.Text)
	case api.KindHash:
		n += 2
		for _, p := range v.Pairs {
			n += 4 + len(p.Name) + len(p.Value)
		}
	case api.KindList, api.KindSet:
		n += 2
		for _, s := range v.Items {
			n += 2 + len(s)
		}
	case api.KindPoint:
		n += 8
	}
	return n
}

func plainMemory(entries []api.Entry) int {
	n := 0
	for _, e := range entries {
		n += 16 + len(e.Key) + plainBytes(e.Value)
	}
	return n
}

func (p *plain) index(key string) int {
	return slices.IndexFunc(p.entries, func(e api.Entry) bool { return e.Key == key })
}

func (p *plain) tick(now int) int {
	if now > p.clock {
		p.clock = now
	}
	if p.clock > 1<<40 {
		p.clock = 1 << 40
	}
	many := len(p.entries)
	p.entries = slices.DeleteFunc(p.entries, func(e api.Entry) bool { return e.Ends > 0 && e.Ends <= p.clock })
	return many - len(p.entries)
}

func (p *plain) put(e api.Entry) api.Errno {
	if len(e.Key) > 1024 || e.Ends < 0 || e.Ends > 1<<40 || e.Ends > 0 && e.Ends <= p.clock {
		return 1
	}
	if !value.Right(e.Value) {
		return 100
	}
	i := p.index(e.Key)
	if i < 0 && len(p.entries) == 4096 {
		return 110
	}
	with := slices.Clone(p.entries)
	if i < 0 {
		with = append(with, copied(e))
	} else {
		with[i] = copied(e)
	}
	if m := plainMemory(with); m > p.room && m > plainMemory(p.entries) {
		return 110
	}
	p.entries = with
	return 0
}

func (p *plain) delete(key string) bool {
	i := p.index(key)
	if i >= 0 {
		p.entries = slices.Delete(p.entries, i, i+1)
	}
	return i >= 0
}

func (p *plain) all() []api.Entry {
	all := slices.Clone(p.entries)
	slices.SortFunc(all, func(a, b api.Entry) int { return strings.Compare(a.Key, b.Key) })
	return all
}

func (p *plain) keys(n int) []string {
	var keys []string
	for _, e := range p.all() {
		if slot.Of(e.Key) == n {
			keys = append(keys, e.Key)
		}
	}
	return keys
}

func (p *plain) clone() *plain { return &plain{p.room, p.clock, slices.Clone(p.entries)} }

// copied is an entry in memory of its own.
func copied(e api.Entry) api.Entry {
	e.Value.Pairs = append([]api.Pair(nil), e.Value.Pairs...)
	e.Value.Items = append([]string(nil), e.Value.Items...)
	return e
}

// both are a space and the plain one that it is held against.
type both struct {
	s *Space
	p *plain
}

func newBoth(room int) both { return both{New(room), &plain{room: room}} }

func (b both) clone() both { return both{b.s.Clone(), b.p.clone()} }

func (b both) put(t *testing.T, e api.Entry) api.Errno {
	t.Helper()
	got, want := b.s.Put(e), b.p.put(e)
	if got != want {
		t.Fatalf("P11.3: Put(%s) with %d bytes taken of %d: %d, not %d", brief(e), plainMemory(b.p.entries), b.p.room, got, want)
	}
	b.checkNumbers(t)
	return got
}

func (b both) delete(t *testing.T, key string) {
	t.Helper()
	if got, want := b.s.Delete(key), b.p.delete(key); got != want {
		t.Fatalf("P11.3: Delete(%.30q): %t", key, got)
	}
	b.checkNumbers(t)
}

func (b both) tick(t *testing.T, now int) {
	t.Helper()
	if got, want := b.s.Tick(now), b.p.tick(now); got != want {
		t.Fatalf("P11.2: Tick(%d): %d, not %d", now, got, want)
	}
	b.checkNumbers(t)
}

// wantPut puts, and holds the answer against one that is written out in the test.
func (b both) wantPut(t *testing.T, e api.Entry, want api.Errno) {
	t.Helper()
	if got := b.put(t, e); got != want {
		t.Fatalf("P11.3: Put(%s): %d, not %d", brief(e), got, want)
	}
}

func (b both) checkNumbers(t *testing.T) {
	t.Helper()
	if n := b.s.Len(); n != len(b.p.entries) {
		t.Fatalf("P11.1: Len: %d, not %d", n, len(b.p.entries))
	}
	if n := b.s.Memory(); n != plainMemory(b.p.entries) {
		t.Fatalf("P11.1: Memory: %d, not %d", n, plainMemory(b.p.entries))
	}
	if n := b.s.Now(); n != b.p.clock {
		t.Fatalf("P11.2: Now: %d, not %d", n, b.p.clock)
	}
}

// check holds all that is told against the plain one; others are keys that may be missing.
func (b both) check(t *testing.T, others []string) {
	t.Helper()
	b.checkNumbers(t)
	all := b.p.all()
	if got := b.s.All(); !slices.EqualFunc(got, all, sameEntry) {
		t.Fatalf("P11.4: All: %d entries, not %d, or unlike ones", len(got), len(all))
	}
	keys := slices.Clone(others)
	for _, e := range all {
		keys = append(keys, e.Key)
	}
	slots := map[int]int{-1: 0, api.Slots: 0, 0: 0, api.Slots - 1: 0}
	for _, key := range keys {
		slots[slot.Of(key)] = 0
		b.checkGet(t, key)
	}
	for n := range slots {
		b.checkSlot(t, n)
	}
	b.checkFit(t)
	b.checkNumbers(t)
}

func (b both) checkGet(t *testing.T, key string) {
	t.Helper()
	var want api.Entry
	i := b.p.index(key)
	if i >= 0 {
		want = b.p.entries[i]
	}
	if e, is := b.s.Get(key); is != (i >= 0) || !sameEntry(e, want) {
		t.Fatalf("P11.3: Get(%.30q): %s, %t, not %s, %t", key, brief(e), is, brief(want), i >= 0)
	}
}

func (b both) checkSlot(t *testing.T, n int) {
	t.Helper()
	keys := b.p.keys(n)
	if got := b.s.Count(n); got != len(keys) {
		t.Fatalf("P11.4: Count(%d): %d, not %d", n, got, len(keys))
	}
	for _, most := range []int{math.MinInt, -1, 0, 1, 2, len(keys) - 1, len(keys), len(keys) + 1, math.MaxInt} {
		want := keys[:max(0, min(most, len(keys)))]
		if got := b.s.Keys(n, most); !slices.Equal(got, want) {
			t.Fatalf("P11.4: Keys(%d, %d): %.200q, not %.200q", n, most, got, want)
		}
	}
}

// checkFit holds what the space tells against itself, without the plain one.
func (b both) checkFit(t *testing.T) {
	t.Helper()
	all := b.s.All()
	var keys, names []string
	for _, e := range all {
		if e.Ends > 0 && e.Ends <= b.s.Now() {
			t.Fatalf("P11.5: %s has ended at %d", brief(e), b.s.Now())
		}
		if got, is := b.s.Get(e.Key); !is || !sameEntry(got, e) {
			t.Fatalf("P11.5: All has %s, Get %s, %t", brief(e), brief(got), is)
		}
		names = append(names, e.Key)
	}
	count, used := 0, 0
	for n := range api.Slots {
		count += b.s.Count(n)
		if b.s.Count(n) > 0 {
			used++
			keys = append(keys, b.s.Keys(n, math.MaxInt)...)
		}
	}
	slices.Sort(keys)
	if !slices.Equal(keys, names) || count != len(all) || b.s.Len() != len(all) || b.s.Memory() != plainMemory(all) {
		t.Fatalf("P11.5: %d keys in slots, by Count %d, by Len %d, by All %d; Memory %d", len(keys), count, b.s.Len(), len(all), b.s.Memory())
	}
	if len(b.s.slots) != used {
		t.Fatalf("Ways: the map has %d slots, %d have keys", len(b.s.slots), used)
	}
}

func sameEntry(a, b api.Entry) bool {
	return a.Key == b.Key && a.Ends == b.Ends && a.Value.Kind == b.Value.Kind && a.Value.Text == b.Value.Text && a.Value.Point == b.Value.Point &&
		slices.Equal(a.Value.Pairs, b.Value.Pairs) && slices.Equal(a.Value.Items, b.Value.Items)
}

func brief(e api.Entry) string {
	kind := strconv.Itoa(e.Value.Kind)
	return strconv.Quote(e.Key[:min(30, len(e.Key))]) + " of " + strconv.Itoa(len(e.Key)) + " bytes, kind " + kind + ", ends " + strconv.Itoa(e.Ends)
}

func text(s string) api.Value { return api.Value{Kind: api.KindText, Text: s} }

func entry(key, s string, ends int) api.Entry {
	return api.Entry{Key: key, Value: text(s), Ends: ends}
}

func long(n int) string { return strings.Repeat("x", n) }

// numbered are so many keys k0, k1, ..
func numbered(many int) []string {
	var l []string
	for i := range many {
		l = append(l, "k"+strconv.Itoa(i))
	}
	return l
}

// strange are keys that a look rune by rune would take for one another, or sort otherwise, and keys of one slot by a tag.
func strange() []string {
	return []string{
		"", "\x00", "\x00\x00", " ", "a", "A", "a\x00", "é", "e\u0301", "\xc3", "\xff", "\xfe", "\uffff", "\U00010000", "\xef\xbf\xbd",
		"foo", "{foo}", "{foo}a", "{foo}b", "a{foo}", "{foo}\xff", "{foo}\uffff", "{foo}\U00010000", "{foo}A", "x{foo}{bar}",
		"{}", "{}foo", "{", "}", "{{foo}}", "{foo", "a\r\nb", long(1023), long(1024), "{foo}" + long(1019),
	}
}

// values are Right ones of each kind, small and at the kinds' edges.
func values() []api.Value {
	var items []string
	var pairs []api.Pair
	for i := range api.MaxItems {
		items = append(items, string([]byte{byte(i)}))
		pairs = append(pairs, api.Pair{Name: items[i], Value: "v"})
	}
	return []api.Value{
		text(""), text("a"), text("\x00\xff"), text(long(50)), text(long(4096)),
		{Kind: api.KindHash, Pairs: []api.Pair{{}}}, {Kind: api.KindHash, Pairs: []api.Pair{{Name: "a", Value: "1"}, {Name: "b", Value: long(1024)}}}, {Kind: api.KindHash, Pairs: pairs},
		{Kind: api.KindList, Items: []string{""}}, {Kind: api.KindList, Items: []string{"b", "a", "b"}}, {Kind: api.KindList, Items: items},
		{Kind: api.KindSet, Items: []string{""}}, {Kind: api.KindSet, Items: []string{"a", "b", "c"}}, {Kind: api.KindSet, Items: items},
		{Kind: api.KindPoint}, {Kind: api.KindPoint, Point: api.Point{Re: -3, Im: api.MaxPart}},
	}
}

// wrongValues are not Right, each for a cause of its own.
func wrongValues() []api.Value {
	many := make([]string, api.MaxItems+1)
	return []api.Value{
		{}, {Kind: -1}, {Kind: 6}, {Kind: 257}, {Kind: math.MinInt, Text: "a"},
		text(long(4097)), {Kind: api.KindText, Text: "a", Items: []string{"a"}}, {Kind: api.KindText, Point: api.Point{Re: 1}},
		{Kind: api.KindHash}, {Kind: api.KindHash, Pairs: []api.Pair{{Name: "b"}, {Name: "a"}}}, {Kind: api.KindHash, Pairs: []api.Pair{{Name: "a"}, {Name: "a"}}},
		{Kind: api.KindHash, Pairs: []api.Pair{{Name: long(1025)}}}, {Kind: api.KindHash, Pairs: []api.Pair{{Value: long(1025)}}}, {Kind: api.KindHash, Pairs: []api.Pair{{}}, Text: "a"},
		{Kind: api.KindList}, {Kind: api.KindList, Items: []string{}}, {Kind: api.KindList, Items: many}, {Kind: api.KindList, Items: []string{long(1025)}},
		{Kind: api.KindSet}, {Kind: api.KindSet, Items: []string{"b", "a"}}, {Kind: api.KindSet, Items: []string{"a", "a"}},
		{Kind: api.KindPoint, Point: api.Point{Re: api.MaxPart + 1}}, {Kind: api.KindPoint, Point: api.Point{Im: -api.MaxPart - 1}}, {Kind: api.KindPoint, Text: "a"},
	}
}

func chance(seed uint32) func(int) int {
	return func(n int) int {
		seed = seed*1664525 + 1013904223
		return int(seed>>8) % n
	}
}

func TestExamples(t *testing.T) {
	s := New(100)
	if e := s.Put(entry("foo", "ab", 5)); e != api.OK || s.Memory() != 26 || s.Count(12182) != 1 {
		t.Error("P11.1:", e, s.Memory(), s.Count(12182))
	}
	if e := s.Put(entry("x", long(100), 0)); e != api.ErrKeyMemory {
		t.Error("P11.3:", e)
	}
	if n := s.Tick(5); n != 1 || s.Len() != 0 {
		t.Error("P11.2:", n, s.Len())
	}
}

func TestNewSpaces(t *testing.T) {
	for _, room := range []int{math.MinInt, -1, 0, 1, 15, 16, 100, 1 << 31, math.MaxInt} {
		b := newBoth(room)
		b.check(t, strange())
		for _, now := range []int{0, -1, math.MinInt} {
			b.tick(t, now)
		}
		for _, key := range strange() {
			b.delete(t, key)
		}
		b.clone().check(t, strange())
		b.check(t, strange())
		if b.s.Len() != 0 || b.s.Memory() != 0 || b.s.Now() != 0 || len(b.s.All()) != 0 {
			t.Error("P11.1: a new space has", b.s.Len(), b.s.Memory(), b.s.Now(), b.s.All())
		}
	}
}

// TestTwoSpaces: what is in one is not in another.
func TestTwoSpaces(t *testing.T) {
	one, other := newBoth(10000), newBoth(10000)
	for _, key := range strange() {
		one.put(t, entry(key, "v", 9))
	}
	one.tick(t, 3)
	other.check(t, strange())
	one.check(t, strange())
}

func TestBytesOfEntries(t *testing.T) {
	rows := []struct {
		e    api.Entry
		want int
	}{
		{entry("", "", 0), 16 + 0 + 5},
		{entry("foo", "ab", 5), 26},
		{entry("é", "é", 0), 16 + 2 + 7},
		{entry(long(1024), long(4096), 7), 16 + 1024 + 4101},
		{api.Entry{Key: "h", Value: api.Value{Kind: api.KindHash, Pairs: []api.Pair{{Name: "a", Value: "1"}, {Name: "b", Value: "22"}}}}, 16 + 1 + 5 + 6 + 7},
		{api.Entry{Key: "li", Value: api.Value{Kind: api.KindList, Items: []string{"bb", "a", ""}}}, 16 + 2 + 5 + 4 + 3 + 2},
		{api.Entry{Key: "set", Value: api.Value{Kind: api.KindSet, Items: []string{"a", "bb"}}}, 16 + 3 + 5 + 3 + 4},
		{api.Entry{Key: "p", Value: api.Value{Kind: api.KindPoint, Point: api.Point{Re: -1, Im: 5}}}, 16 + 1 + 11},
	}
	b := newBoth(1 << 20)
	sum := 0
	for _, row := range rows {
		b.wantPut(t, row.e, api.OK)
		sum += row.want
		if b.s.Memory() != sum {
			t.Errorf("P11.1: Memory with %s: %d, not %d", brief(row.e), b.s.Memory(), sum)
		}
	}
	for _, row := range rows {
		b.delete(t, row.e.Key)
		sum -= row.want
		if b.s.Memory() != sum {
			t.Errorf("P11.1: Memory without %s: %d, not %d", brief(row.e), b.s.Memory(), sum)
		}
	}
}

// TestRoomForOne: each value goes into just the room that it takes, and into no lesser one.
func TestRoomForOne(t *testing.T) {
	for _, key := range []string{"", "foo", long(1024)} {
		for _, v := range values() {
			e := api.Entry{Key: key, Value: v}
			bytes := 16 + len(key) + plainBytes(v)
			for room, want := range map[int]api.Errno{
				math.MinInt: api.ErrKeyMemory, -bytes: api.ErrKeyMemory, -1: api.ErrKeyMemory, 0: api.ErrKeyMemory, bytes - 1: api.ErrKeyMemory,
				bytes: api.OK, bytes + 1: api.OK, math.MaxInt: api.OK,
			} {
				b := newBoth(room)
				b.wantPut(t, e, want)
				b.checkGet(t, key)
				b.checkSlot(t, slot.Of(key))
			}
		}
	}
}

func TestRoomForSeveral(t *testing.T) {
	const bytes = 16 + 2 + 5 + 10
	for _, less := range []int{1, bytes - 1, bytes} {
		b := newBoth(5*bytes - less)
		for _, key := range numbered(4) {
			b.wantPut(t, entry(key, long(10), 0), api.OK)
		}
		b.wantPut(t, entry("k4", long(10), 0), api.ErrKeyMemory)
		b.check(t, numbered(6))
		// What was refused takes nothing: a shorter one goes in, if it fits.
		want := api.ErrKeyMemory
		if less <= 10 {
			want = api.OK
		}
		b.wantPut(t, entry("k4", long(9), 0), want)
		b.delete(t, "k2")
		b.wantPut(t, entry("k5", long(10), 0), api.OK)
		b.check(t, numbered(6))
	}
}

func TestInThePlaceOfAnother(t *testing.T) {
	for spare := range 4 {
		b := newBoth(2*(16+1+5+20) + spare)
		b.wantPut(t, entry("a", long(20), 0), api.OK)
		b.wantPut(t, entry("b", long(20), 0), api.OK)
		b.wantPut(t, entry("a", long(20+spare+1), 0), api.ErrKeyMemory)
		b.check(t, []string{"a", "b", "c"})
		b.wantPut(t, entry("a", long(20+spare), 0), api.OK)
		b.wantPut(t, entry("b", long(21), 0), api.ErrKeyMemory)
		b.wantPut(t, entry("b", strings.Repeat("y", 20), 9), api.OK)
		b.wantPut(t, entry("c", "", 0), api.ErrKeyMemory)
		b.check(t, []string{"a", "b", "c"})
		b.wantPut(t, entry("a", long(7), 0), api.OK)
		b.wantPut(t, entry("b", long(20+13+spare), 0), api.OK)
		b.wantPut(t, entry("b", long(20+13+spare+1), 0), api.ErrKeyMemory)
		b.wantPut(t, api.Entry{Key: "b", Value: api.Value{Kind: api.KindPoint}, Ends: 3}, api.OK)
		b.check(t, []string{"a", "b", "c"})
	}
}

// TestMoreThanFull: no call makes the entries take more than room, so the room is made less from within.
func TestMoreThanFull(t *testing.T) {
	for _, room := range []int{math.MinInt, -1, 0, 41, 83} {
		b := newBoth(84)
		b.wantPut(t, entry("a", long(20), 0), api.OK)
		b.wantPut(t, entry("b", long(20), 0), api.OK)
		b.s.room, b.p.room = room, room
		b.wantPut(t, entry("c", "", 0), api.ErrKeyMemory)
		b.wantPut(t, entry("a", long(21), 0), api.ErrKeyMemory)
		b.wantPut(t, entry("a", strings.Repeat("y", 20), 8), api.OK)
		b.wantPut(t, entry("a", long(19), 0), api.OK)
		b.wantPut(t, entry("a", "", 0), api.OK)
		b.check(t, []string{"a", "b", "c"})
		b.put(t, entry("a", "x", 0))
		b.delete(t, "b")
		b.put(t, entry("c", "", 0))
		b.check(t, []string{"a", "b", "c"})
	}
}

func TestKeysOfAllLengths(t *testing.T) {
	b := newBoth(1 << 20)
	for n, want := range map[int]api.Errno{0: api.OK, 1: api.OK, 1023: api.OK, 1024: api.OK, 1025: api.ErrArg, 1026: api.ErrArg, 2048: api.ErrArg, 70000: api.ErrArg} {
		b.wantPut(t, entry(long(n), "", 0), want)
		b.checkGet(t, long(n))
		// Bytes count, not runes.
		b.wantPut(t, entry(strings.Repeat("\u00e9", n/2)+long(n%2), "", 0), want)
	}
	b.check(t, []string{"", "x", long(1025), long(70000)})
	b.delete(t, long(1025))
	b.delete(t, "")
	b.check(t, []string{"", long(1024)})
}

func TestEnds(t *testing.T) {
	const last = 1 << 40
	for _, clock := range []int{0, 1, 5, last - 1, last} {
		for _, ends := range []int{math.MinInt, -last, -1, 0, 1, 2, 4, 5, 6, last - 2, last - 1, last, last + 1, math.MaxInt} {
			b := newBoth(1000)
			b.tick(t, clock)
			want := api.ErrArg
			if ends == 0 || ends > clock && ends <= last {
				want = api.OK
			}
			b.wantPut(t, entry("foo", "new", ends), want)
			b.check(t, []string{"foo"})
			b.put(t, entry("foo", "old", 0))
			b.wantPut(t, entry("foo", "new", ends), want)
			b.check(t, []string{"foo"})
		}
	}
}

func TestWrongValues(t *testing.T) {
	b := newBoth(1 << 20)
	b.wantPut(t, entry("there", "old", 4), api.OK)
	for _, v := range wrongValues() {
		b.wantPut(t, api.Entry{Key: "there", Value: v}, api.ErrValueForm)
		b.wantPut(t, api.Entry{Key: "new", Value: v, Ends: 9}, api.ErrValueForm)
	}
	b.check(t, []string{"there", "new", ""})
	for _, v := range values() {
		b.wantPut(t, api.Entry{Key: "there", Value: v}, api.OK)
		b.checkGet(t, "there")
	}
	// An empty list in a field that the kind does not use is as good as none.
	b.wantPut(t, api.Entry{Key: "e", Value: api.Value{Kind: api.KindText, Pairs: []api.Pair{}, Items: []string{}}}, api.OK)
	b.check(t, []string{"e"})
}

func TestOrderOfErrors(t *testing.T) {
	small, full := newBoth(30), newBoth(math.MaxInt)
	small.wantPut(t, entry("a", "", 0), api.OK)
	fillKeys(t, full, numbered(api.MaxKeys))
	for _, b := range []both{small, full} {
		b.tick(t, 5)
		right, wrong := text("a new one"), api.Value{Kind: api.KindSet, Items: []string{"b", "a"}}
		for _, key := range []string{"new", long(1025)} {
			for _, ends := range []int{0, 6, 5, -1, api.MaxTime + 1} {
				fault := len(key) > 1024 || ends != 0 && ends != 6
				want, wantWrong := api.ErrKeyMemory, api.ErrValueForm
				if fault {
					want, wantWrong = api.ErrArg, api.ErrArg
				}
				b.wantPut(t, api.Entry{Key: key, Value: right, Ends: ends}, want)
				b.wantPut(t, api.Entry{Key: key, Value: wrong, Ends: ends}, wantWrong)
			}
		}
		b.checkGet(t, "a")
		b.checkGet(t, "new")
		b.checkFit(t)
	}
}

// fillKeys puts all keys, with empty texts, into an empty space; the plain one takes them at once.
func fillKeys(t *testing.T, b both, keys []string) {
	t.Helper()
	for i, key := range keys {
		e := entry(key, "", 0)
		if errno := b.s.Put(e); errno != api.OK {
			t.Fatalf("P11.3: Put of the key number %d: %d", i+1, errno)
		}
		b.p.entries = append(b.p.entries, e)
	}
	b.checkNumbers(t)
}

func TestMaxKeys(t *testing.T) {
	var tagged []string
	for _, key := range numbered(4096) {
		tagged = append(tagged, "{foo}"+key)
	}
	for _, keys := range [][]string{numbered(4096), tagged} {
		for _, room := range []int{math.MaxInt, 4096 * (16 + 10 + 5)} {
			b := newBoth(room)
			fillKeys(t, b, keys[:4095])
			b.wantPut(t, entry(keys[4095], "", 7), api.OK)
			b.wantPut(t, entry("one more", "", 0), api.ErrKeyMemory)
			b.wantPut(t, entry("", "", 0), api.ErrKeyMemory)
			b.wantPut(t, entry(keys[9], "again", 0), api.OK)
			b.wantPut(t, entry(keys[4095], "", 8), api.OK)
			b.checkFit(t)
			b.delete(t, "one more")
			b.wantPut(t, entry("one more", "", 0), api.ErrKeyMemory)
			b.delete(t, keys[9])
			b.wantPut(t, entry("one more", "", 0), api.OK)
			b.wantPut(t, entry(keys[9], "", 0), api.ErrKeyMemory)
			b.tick(t, 8)
			b.wantPut(t, entry(keys[9], "", 0), api.OK)
			b.wantPut(t, entry(keys[4095], "", 0), api.ErrKeyMemory)
			b.checkFit(t)
			b.checkSlot(t, 12182)
		}
	}
}

// TestAllKeysGo: out of a full space, at once by a tick, and one by one.
func TestAllKeysGo(t *testing.T) {
	for _, tag := range []string{"", "{foo}"} {
		s := New(math.MaxInt)
		for i, key := range numbered(4096) {
			if e := s.Put(entry(tag+key, "", 1+i%3)); e != api.OK {
				t.Fatal("P11.3:", e)
			}
		}
		if n := s.Tick(1); n != 1366 || s.Len() != 2730 {
			t.Error("P11.2: of 4096 keys", n, "ended, and", s.Len(), "are left")
		}
		c := s.Clone()
		if n := s.Tick(9); n != 2730 || s.Len() != 0 || s.Memory() != 0 || len(s.slots) != 0 {
			t.Error("P11.2:", n, s.Len(), s.Memory(), len(s.slots))
		}
		for _, e := range c.All() {
			if !c.Delete(e.Key) {
				t.Error("P11.3: Delete of", e.Key)
			}
		}
		if c.Len() != 0 || c.Memory() != 0 || len(c.slots) != 0 {
			t.Error("P11.3:", c.Len(), c.Memory(), len(c.slots))
		}
	}
}

func TestTicks(t *testing.T) {
	const last = 1 << 40
	b := newBoth(10000)
	for key, ends := range map[string]int{"stays": 0, "1": 1, "2": 2, "{2}": 2, "5": 5, "9": 9, "near": last - 1, "last": last} {
		b.wantPut(t, entry(key, "v", ends), api.OK)
	}
	rows := []struct{ now, gone, clock int }{
		{0, 0, 0}, {-1, 0, 0}, {math.MinInt, 0, 0}, {1, 1, 1}, {1, 0, 1}, {0, 0, 1}, {2, 2, 2}, {4, 0, 4}, {3, 0, 4}, {-7, 0, 4}, {5, 1, 5},
		{100, 1, 100}, {9, 0, 100}, {last - 2, 0, last - 2}, {last - 1, 1, last - 1}, {last + 1, 1, last}, {math.MaxInt, 0, last}, {last, 0, last}, {0, 0, last},
	}
	for _, row := range rows {
		c := b.clone()
		if n := c.s.Tick(row.now); n != row.gone || c.s.Now() != row.clock {
			t.Errorf("P11.2: Tick(%d) at %d: %d, and the clock is %d, not %d and %d", row.now, b.s.Now(), n, c.s.Now(), row.gone, row.clock)
		}
		b.tick(t, row.now)
		b.check(t, []string{"stays", "1", "2", "{2}", "5", "9", "near", "last"})
	}
	if l := b.s.All(); len(l) != 1 || l[0].Key != "stays" {
		t.Error("P11.2: at the end there are", l)
	}
	b.wantPut(t, entry("last", "", last), api.ErrArg)
	b.wantPut(t, entry("last", "", 0), api.OK)
}

// TestEndsPutAnew: the Ends that count are those of the last Put.
func TestEndsPutAnew(t *testing.T) {
	ends := []int{0, 3, 5, 9}
	for _, first := range ends {
		for _, second := range ends {
			for _, other := range ends {
				for _, between := range []int{0, 2, 3, 5} {
					b := newBoth(1000)
					b.put(t, entry("a", "1", first))
					b.put(t, entry("b", "", other))
					b.tick(t, between)
					b.put(t, entry("a", "2", second))
					for now := range 11 {
						b.tick(t, now)
						b.checkGet(t, "a")
						b.checkGet(t, "b")
					}
					b.check(t, nil)
				}
			}
		}
	}
}

// TestEndsBehindADelete: an entry that is gone does not end any more, and one put behind it ends at its own time.
func TestEndsBehindADelete(t *testing.T) {
	b := newBoth(1000)
	b.put(t, entry("a", "", 3))
	b.delete(t, "a")
	b.put(t, entry("b", "", 7))
	b.tick(t, 3)
	b.tick(t, 6)
	b.check(t, []string{"a", "b"})
	b.put(t, entry("a", "", 8))
	b.tick(t, 7)
	b.check(t, []string{"a", "b"})
	b.tick(t, 8)
	b.check(t, []string{"a", "b"})
}

func TestDeletes(t *testing.T) {
	b := newBoth(1 << 20)
	for i, key := range strange() {
		b.wantPut(t, entry(key, strconv.Itoa(i), 0), api.OK)
	}
	for i, key := range strange() {
		c := b.clone()
		c.delete(t, key)
		c.check(t, strange())
		c.delete(t, key)
		c.delete(t, key+"?")
		c.wantPut(t, entry(key, "back", 0), api.OK)
		c.check(t, strange())
		if i%2 == 0 {
			b.delete(t, key)
		}
		b.check(t, strange())
	}
}

func TestKeysRise(t *testing.T) {
	s := New(10000)
	for _, key := range []string{"{foo}b", "foo", "{foo}", "{foo}\xff", "{foo}a", "a{foo}", "{foo}\U00010000", "{foo}\uffff", "{foo}B", "bar"} {
		s.Put(entry(key, "", 0))
	}
	want := []string{"a{foo}", "foo", "{foo}", "{foo}B", "{foo}a", "{foo}b", "{foo}\uffff", "{foo}\U00010000", "{foo}\xff"}
	if s.Count(12182) != 9 || s.Count(slot.Of("bar")) != 1 {
		t.Error("P11.4:", s.Count(12182), s.Count(slot.Of("bar")))
	}
	for most := -2; most < 12; most++ {
		if l := s.Keys(12182, most); !slices.Equal(l, want[:max(0, min(most, 9))]) {
			t.Errorf("P11.4: Keys(12182, %d): %q", most, l)
		}
	}
	for _, most := range []int{math.MinInt, math.MaxInt} {
		if l := s.Keys(12182, most); len(l) != max(0, min(most, 9)) {
			t.Errorf("P11.4: Keys(12182, %d): %q", most, l)
		}
	}
	var all []string
	for _, e := range s.All() {
		all = append(all, e.Key)
	}
	if !slices.Equal(all, slices.Insert(want, 1, "bar")) {
		t.Errorf("P11.4: All: %q", all)
	}
}

func TestSlotsThatAreNone(t *testing.T) {
	s := New(1 << 20)
	for _, key := range append(strange(), numbered(200)...) {
		s.Put(entry(key, "", 0))
	}
	for _, n := range []int{-1, -2, -12182, api.Slots, api.Slots + 12182, 12182 - api.Slots, 12182 + 1<<32, 65535, 65536, math.MinInt, math.MaxInt} {
		for _, most := range []int{math.MinInt, -1, 0, 1, 5, math.MaxInt} {
			if s.Count(n) != 0 || len(s.Keys(n, most)) != 0 {
				t.Errorf("P11.4: slot %d: %d, %q", n, s.Count(n), s.Keys(n, most))
			}
		}
	}
}

// TestSlotsGoOutOfTheMap: a slot is in the map just while it has keys, and asking for one puts none in.
func TestSlotsGoOutOfTheMap(t *testing.T) {
	s := New(1 << 20)
	want := func(many int) {
		t.Helper()
		if len(s.slots) != many {
			t.Errorf("Ways: the map has %d slots, not %d", len(s.slots), many)
		}
	}
	want(0)
	s.Put(entry("foo", "", 0))
	s.Put(entry("{foo}a", "", 4))
	want(1)
	s.Put(entry("bar", "", 4))
	want(2)
	for n := -1; n <= api.Slots; n++ {
		s.Count(n)
		s.Keys(n, 1)
	}
	s.Get("baz")
	s.Delete("baz")
	s.Put(entry("baz", "", -1))
	want(2)
	s.Tick(4)
	want(1)
	s.Delete("foo")
	want(0)
}

// scribble writes into all that a value has, and into the room behind its lists.
func scribble(v *api.Value) {
	pairs, items := v.Pairs[:cap(v.Pairs)], v.Items[:cap(v.Items)]
	for i := range pairs {
		pairs[i] = api.Pair{Name: "?", Value: "!"}
	}
	for i := range items {
		items[i] = "?"
	}
}

func TestWhatWasPutIsNotKept(t *testing.T) {
	for _, v := range values() {
		b := newBoth(1 << 20)
		e := copied(api.Entry{Key: "foo", Value: v})
		kept := copied(e)
		b.wantPut(t, e, api.OK)
		if !sameEntry(e, kept) {
			t.Errorf("R5: Put changed %s", brief(e))
		}
		scribble(&e.Value)
		b.check(t, nil)
		e = copied(kept)
		b.wantPut(t, e, api.OK)
		scribble(&e.Value)
		b.check(t, nil)
	}
}

func TestWhatIsToldIsTheCallersOwn(t *testing.T) {
	b := newBoth(1 << 20)
	for i, v := range values() {
		b.wantPut(t, api.Entry{Key: "{foo}" + strconv.Itoa(i), Value: v}, api.OK)
	}
	c := b.clone()
	checkBoth := func() {
		t.Helper()
		b.check(t, nil)
		c.check(t, nil)
	}
	for _, s := range []*Space{b.s, c.s} {
		for _, key := range s.Keys(12182, 99) {
			e, _ := s.Get(key)
			scribble(&e.Value)
			checkBoth()
		}
		all := s.All()
		for i := range all {
			scribble(&all[i].Value)
			all[i] = api.Entry{}
		}
		checkBoth()
		for _, most := range []int{0, 1, 3, 99} {
			keys := s.Keys(12182, most)
			keys = keys[:cap(keys)]
			for i := range keys {
				keys[i] = "?"
			}
			checkBoth()
		}
	}
	// No two answers share memory, nor do two lists of one answer.
	first, second := b.s.All(), b.s.All()
	for i := range first {
		scribble(&first[i].Value)
	}
	if !slices.EqualFunc(second, b.p.all(), sameEntry) {
		t.Error("R6: what All told has changed with what it told ahead")
	}
}

// doOne does one call that is chosen by next, on both.
func (b both) doOne(t *testing.T, next func(int) int, pool []string, vs []api.Value) {
	t.Helper()
	key := pool[next(len(pool))]
	clock := b.p.clock
	switch what := next(20); {
	case what < 11:
		ends := []int{0, 0, 0, clock + 1 + next(9), clock + 1 + next(9), clock + 1, clock, -1, api.MaxTime, api.MaxTime + 1}[next(10)]
		b.put(t, api.Entry{Key: key, Value: vs[next(len(vs))], Ends: ends})
	case what < 16:
		b.delete(t, key)
	case what < 17:
		b.tick(t, clock-next(3))
	case what < 20:
		b.tick(t, clock+next(4))
	}
}

func pools() [][]string {
	var tagged []string
	for _, key := range numbered(12) {
		tagged = append(tagged, "{foo}"+key, "{bar}"+key)
	}
	return [][]string{numbered(5), numbered(60), tagged, strange(), append(strange(), long(1025), "{foo}"+long(1020))}
}

func TestByChance(t *testing.T) {
	next := chance(11)
	some := append(values(), wrongValues()[:6]...)
	plainOnes := []api.Value{text(""), text("a"), text("bb"), text(long(30)), {Kind: api.KindPoint}, {Kind: api.KindList, Items: []string{"x", ""}}}
	for round := range 50 {
		pool := pools()[round%len(pools())]
		vs := plainOnes
		if round%3 == 0 {
			vs = some
		}
		b := newBoth([]int{-5, 0, 60, 150, 400, 3000, 20000, math.MaxInt}[next(8)])
		for i := range 300 {
			b.doOne(t, next, pool, vs)
			if i%20 == 0 {
				b.check(t, pool)
			}
		}
		b.tick(t, b.p.clock+20)
		b.check(t, pool)
		b.tick(t, math.MaxInt)
		b.check(t, pool)
	}
}

// TestClonesByChance: a space and its clones go on by calls of their own, and none sees another's.
func TestClonesByChance(t *testing.T) {
	next := chance(12)
	vs := []api.Value{text(""), text("a"), text(long(30)), {Kind: api.KindSet, Items: []string{"x", "y"}}, {Kind: api.KindHash, Pairs: []api.Pair{{Name: "n"}}}}
	for round := range 25 {
		pool := pools()[round%len(pools())]
		all := []both{newBoth([]int{200, 1000, math.MaxInt}[next(3)])}
		for i := range 240 {
			if i%40 == 39 {
				c := all[next(len(all))].clone()
				c.check(t, pool)
				all = append(all, c)
			}
			all[next(len(all))].doOne(t, next, pool, vs)
			if i%30 == 0 {
				for _, b := range all {
					b.check(t, pool)
				}
			}
		}
		for _, b := range all {
			b.check(t, pool)
		}
	}
}

// TestCloneOfEachCall: one call on the clone, then on the space, of each sort.
func TestCloneOfEachCall(t *testing.T) {
	keys := []string{"foo", "{foo}a", "bar", "new"}
	calls := []func(b both){
		func(b both) { b.put(t, entry("new", "n", 0)) },
		func(b both) { b.put(t, entry("foo", "longer than ahead", 9)) },
		func(b both) { b.put(t, entry("{foo}0", "", 0)) },
		func(b both) { b.put(t, entry("new", long(4000), 0)) },
		func(b both) { b.delete(t, "foo") },
		func(b both) { b.delete(t, "bar") },
		func(b both) { b.tick(t, 4) },
		func(b both) { b.tick(t, 9) },
	}
	for _, one := range calls {
		for _, other := range calls {
			b := newBoth(200)
			b.put(t, entry("foo", "f", 4))
			b.put(t, entry("{foo}a", "a", 6))
			b.put(t, entry("bar", "b", 0))
			b.tick(t, 2)
			c := b.clone()
			c.check(t, keys)
			one(c)
			b.check(t, keys)
			other(b)
			c.check(t, keys)
			b.check(t, keys)
		}
	}
}

// TestTheSameAgain: the same calls on two spaces tell the same, however the language's maps are gone through.
func TestTheSameAgain(t *testing.T) {
	play := func() []string {
		next := chance(13)
		s := New(3000)
		var told []string
		for range 2000 {
			key := "k" + strconv.Itoa(next(80))
			switch next(4) {
			case 0, 1:
				told = append(told, strconv.Itoa(int(s.Put(entry(key, long(next(40)), []int{0, s.Now() + 1 + next(30)}[next(2)])))))
			case 2:
				told = append(told, strconv.FormatBool(s.Delete(key)))
			case 3:
				told = append(told, strconv.Itoa(s.Tick(s.Now()+next(5))))
			}
			told = append(told, strconv.Itoa(s.Len()), strconv.Itoa(s.Memory()))
			for _, e := range s.All() {
				told = append(told, e.Key, e.Value.Text, strconv.Itoa(e.Ends))
			}
		}
		return told
	}
	first := play()
	for range 3 {
		if !slices.Equal(play(), first) {
			t.Fatal("R7: the same calls told something else")
		}
	}
}
