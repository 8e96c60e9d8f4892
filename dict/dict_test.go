package dict

import (
	"slices"
	"strconv"
	"strings"
	"testing"

	"marshalyard/crc"
)

// plain is a dict as the chapter tells it: a list of names and values, and how many rooms there are and are left.
type plain struct {
	names       []string
	values      []int
	rooms, left int
}

func newPlain() *plain { return &plain{rooms: 4} }

func (p *plain) step() bool {
	if p.left == 0 {
		return false
	}
	p.left--
	return true
}

func (p *plain) get(name string) (int, bool) {
	if i := slices.Index(p.names, name); i >= 0 {
		return p.values[i], true
	}
	return 0, false
}

func (p *plain) put(name string, v int) bool {
	p.step()
	i := slices.Index(p.names, name)
	if i >= 0 {
		p.values[i] = v
	} else {
		p.names, p.values = append(p.names, name), append(p.values, v)
	}
	if p.left == 0 && len(p.names) > p.rooms {
		p.left, p.rooms = p.rooms, 2*p.rooms
	}
	return i >= 0
}

func (p *plain) delete(name string) bool {
	p.step()
	i := slices.Index(p.names, name)
	if i >= 0 {
		p.names, p.values = slices.Delete(p.names, i, i+1), slices.Delete(p.values, i, i+1)
	}
	if p.left == 0 && p.rooms > 4 && 4*len(p.names) < p.rooms {
		p.left, p.rooms = p.rooms, p.rooms/2
	}
	return i >= 0
}

func (p *plain) clone() *plain {
	return &plain{slices.Clone(p.names), slices.Clone(p.values), p.rooms, p.left}
}

// both are a dict and the plain one that it is held against.
type both struct {
	d *Dict[int]
	p *plain
}

func newBoth() both { return both{New[int](), newPlain()} }

func (b both) clone() both { return both{b.d.Clone(), b.p.clone()} }

func (b both) put(t *testing.T, name string, v int) {
	t.Helper()
	if got, want := b.d.Put(name, v), b.p.put(name, v); got != want {
		t.Fatalf("P7.1: Put(%q, %d): %t", name, v, got)
	}
	b.checkRooms(t)
}

func (b both) delete(t *testing.T, name string) {
	t.Helper()
	if got, want := b.d.Delete(name), b.p.delete(name); got != want {
		t.Fatalf("P7.1: Delete(%q): %t", name, got)
	}
	b.checkRooms(t)
}

func (b both) step(t *testing.T) {
	t.Helper()
	if got, want := b.d.Step(), b.p.step(); got != want {
		t.Fatalf("P7.2: Step: %t", got)
	}
	b.checkRooms(t)
}

func (b both) checkRooms(t *testing.T) {
	t.Helper()
	if b.d.Len() != len(b.p.names) {
		t.Fatalf("P7.1: Len: %d, not %d", b.d.Len(), len(b.p.names))
	}
	if rooms, left := b.d.Rooms(); rooms != b.p.rooms || left != b.p.left {
		t.Fatalf("P7.3: Rooms: %d, %d, not %d, %d", rooms, left, b.p.rooms, b.p.left)
	}
}

// check holds all that is told without a change against the plain one; none are names that may be missing.
func (b both) check(t *testing.T, none []string) {
	t.Helper()
	b.checkRooms(t)
	names := slices.Clone(b.p.names)
	slices.SortFunc(names, strings.Compare)
	if got := b.d.Names(); !slices.Equal(got, names) {
		t.Fatalf("P7.1: Names: %q, not %q", got, names)
	}
	for _, list := range [][]string{names, none} {
		for _, s := range list {
			v, is := b.d.Get(s)
			if want, there := b.p.get(s); v != want || is != there {
				t.Fatalf("P7.1: Get(%q): %d, %t, not %d, %t", s, v, is, want, there)
			}
		}
	}
	checkPlaces(t, b.d)
	b.checkRooms(t)
}

// checkPlaces looks into the tables: which names lie in which rooms, and that nothing else is held.
func checkPlaces[V any](t *testing.T, d *Dict[V]) {
	t.Helper()
	count := 0
	for k, tab := range []table[V]{d.newer, d.elder} {
		if n := len(tab); n&(n-1) != 0 || n < 4 && !(k == 1 && n == 0) {
			t.Fatalf("Rooms: a table of %d", n)
		}
		for i, room := range tab {
			for at, p := range room[:cap(room)] {
				if at >= len(room) {
					if p.name != "" {
						t.Fatalf("LANGUAGE 8: %q is kept", p.name)
					}
					continue
				}
				count++
				if int(crc.Sum([]byte(p.name)))%len(tab) != i {
					t.Fatalf("Rooms: %q is in room %d of %d", p.name, i, len(tab))
				}
			}
			if k == 1 && i < d.taken && cap(room) != 0 {
				t.Fatalf("P7.2: room %d of the elder table was taken over by %d steps", i, d.taken)
			}
		}
	}
	if count != d.Len() {
		t.Fatalf("P7.4: %d names lie in rooms, Len is %d", count, d.Len())
	}
}

// numbered are so many names n0, n1, ..
func numbered(many int) []string {
	var l []string
	for i := range many {
		l = append(l, "n"+strconv.Itoa(i))
	}
	return l
}

// alike are so many names of one sum, whatever the table: bytes 0 ahead of a text are not seen in it.
func alike(many int, text string) []string {
	var l []string
	for i := range many {
		l = append(l, strings.Repeat("\x00", i)+text)
	}
	return l
}

// strange are names that a rune by rune look would take for one another, or sort otherwise.
func strange() []string {
	return []string{
		"", "\x00", "\x00\x00", " ", "a", "A", "a\x00", "\x00a", "ab", "é", "e\u0301", "\xc3", "\xa9", "\xe9",
		"\xff", "\xfe", "\xff\xfe", "\xc3\x28", "\xed\xa0\x80", "\xef\xbf\xbd", "\uffff", "\U00010000", "\xf4\x90\x80\x80",
		"{foo}", "foo", "a\r\nb", strings.Repeat("long", 300), strings.Repeat("long", 300) + "\x00",
	}
}

// filled has so many of the names, their places as values, and one table.
func filled(t *testing.T, names []string) both {
	t.Helper()
	b := newBoth()
	for i, s := range names {
		b.put(t, s, i)
	}
	b.settle(t)
	return b
}

// settle does all steps that there are.
func (b both) settle(t *testing.T) {
	t.Helper()
	for b.p.left > 0 {
		b.step(t)
	}
}

func chance(seed uint32) func(int) int {
	return func(n int) int {
		seed = seed*1664525 + 1013904223
		return int(seed>>8) % n
	}
}

func wantRooms(t *testing.T, b both, rooms, left int) {
	t.Helper()
	if r, l := b.d.Rooms(); r != rooms || l != left {
		t.Fatalf("P7.2: Rooms: %d, %d, not %d, %d", r, l, rooms, left)
	}
}

func TestExamples(t *testing.T) {
	d := New[string]()
	for _, s := range []string{"a", "b", "c", "d", "e"} {
		if d.Put(s, "of "+s) {
			t.Errorf("P7.1: Put(%q): true", s)
		}
	}
	rooms := func(want, wantLeft int) {
		t.Helper()
		if n, left := d.Rooms(); n != want || left != wantLeft {
			t.Errorf("P7.3: Rooms: %d, %d, not %d, %d", n, left, want, wantLeft)
		}
	}
	rooms(8, 4)
	if !d.Step() || !d.Step() {
		t.Error("P7.2: the first two steps")
	}
	rooms(8, 2)
	if !d.Step() || !d.Step() || d.Step() {
		t.Error("P7.2: the last steps")
	}
	rooms(8, 0)
	if v, is := d.Get("c"); v != "of c" || !is {
		t.Errorf("P7.1: Get(c): %q, %t", v, is)
	}
	checkPlaces(t, d)
}

func TestEmpty(t *testing.T) {
	b := newBoth()
	wantRooms(t, b, 4, 0)
	b.check(t, strange())
	for _, s := range strange() {
		b.step(t)
		b.delete(t, s)
		b.check(t, strange())
	}
	b.clone().check(t, strange())
	wantRooms(t, b, 4, 0)
}

// TestTwoDicts: what is in one is not in another.
func TestTwoDicts(t *testing.T) {
	one, other := newBoth(), newBoth()
	for i, s := range numbered(20) {
		one.put(t, s, i)
		other.check(t, numbered(20))
	}
	other.put(t, "n3", 77)
	one.check(t, nil)
	other.check(t, numbered(20))
}

func TestPutAgain(t *testing.T) {
	names := numbered(9)
	for many := range 10 {
		b := filled(t, names[:many])
		for v, s := range names[:many] {
			b.put(t, s, -v)
			b.put(t, s, v+1000)
			b.check(t, names)
		}
	}
}

func TestDeleteAndPutBack(t *testing.T) {
	for many := range 20 {
		names := numbered(many)
		for steps := range 10 {
			b := newBoth()
			for i, s := range names {
				b.put(t, s, i)
			}
			for range steps {
				b.step(t)
			}
			for i, s := range names {
				b.delete(t, s)
				b.delete(t, s)
				b.check(t, names)
				b.put(t, s, 100+i)
				b.check(t, names)
			}
		}
	}
}

// shapes are dicts of each shape: one table or two, growing or shrinking, with rooms just begun or nearly all taken over.
func shapes(t *testing.T) []both {
	t.Helper()
	var l []both
	grow := newBoth()
	for i, s := range numbered(18) {
		l = append(l, grow.clone())
		grow.put(t, s, i)
	}
	full := filled(t, numbered(17))
	for _, s := range numbered(17) {
		l = append(l, full.clone())
		full.delete(t, s)
	}
	for _, many := range []int{5, 9, 17} {
		b := newBoth()
		for i, s := range numbered(many) {
			b.put(t, s, i)
		}
		for b.p.left > 0 {
			l = append(l, b.clone())
			b.step(t)
		}
		for b.p.left == 0 && len(b.p.names) > 0 {
			b.delete(t, b.p.names[0])
		}
		for b.p.left > 0 {
			l = append(l, b.clone())
			b.step(t)
		}
	}
	return l
}

// doOne does one of nine calls.
func (b both) doOne(t *testing.T, what, v int) {
	t.Helper()
	switch what {
	case 0:
		b.put(t, "n0", v)
	case 1:
		b.put(t, "n16", v)
	case 2:
		b.put(t, "\x00n16", v)
	case 3:
		b.put(t, "", v)
	case 4:
		b.delete(t, "n0")
	case 5:
		b.delete(t, "n16")
	case 6:
		b.delete(t, "")
	case 7:
		b.delete(t, "\x00n16")
	case 8:
		b.step(t)
	}
}

// TestEveryOrder does all short scripts behind each shape.
func TestEveryOrder(t *testing.T) {
	names := append(numbered(18), "", "\x00n16", "\x00n0")
	for _, shape := range shapes(t) {
		for script := range 9 * 9 * 9 {
			b := shape.clone()
			for i := range 3 {
				b.doOne(t, script%9, 1000+i)
				script /= 9
			}
			b.check(t, names)
		}
		shape.check(t, names)
	}
}

func TestByChance(t *testing.T) {
	next := chance(7)
	pools := [][]string{numbered(7), numbered(40), numbered(300), alike(30, "x"), append(alike(9, ""), alike(9, "foo")...), strange()}
	for round := range 60 {
		pool := pools[round%len(pools)]
		b := newBoth()
		for i := range 900 {
			name := pool[next(len(pool))]
			more := 4
			// By turns it is rather filled than emptied, so that it grows and shrinks.
			if i/300%2 == 1 {
				more = 1
			}
			switch what := next(7); {
			case what < more:
				b.put(t, name, i)
			case what < 5:
				b.delete(t, name)
			case what == 5:
				b.step(t)
			default:
				b = b.clone()
			}
			if i%7 == 0 || len(pool) < 50 {
				b.check(t, pool)
			}
		}
		b.check(t, pool)
	}
}

// TestOneRoom: names in one room stand beside each other, and go out of it from any place.
func TestOneRoom(t *testing.T) {
	for _, text := range []string{"", "a", "\xff\xfe"} {
		names := alike(12, text)
		for first := range names {
			b := newBoth()
			for i, s := range names {
				b.put(t, s, i)
				b.check(t, names)
			}
			for i := range names {
				b.delete(t, names[(first+5*i)%len(names)])
				b.check(t, names)
			}
		}
	}
}

func TestStrangeNames(t *testing.T) {
	names := strange()
	b := newBoth()
	for i, s := range names {
		b.check(t, names)
		b.put(t, s, i+1)
	}
	for b.p.left > 0 {
		b.check(t, names)
		b.step(t)
	}
	for _, s := range names {
		b.delete(t, s)
		b.check(t, names)
	}
}

// TestGrowing tells behind which puts a newer table is begun, by numbers written out.
func TestGrowing(t *testing.T) {
	begun := map[int]int{5: 8, 9: 16, 17: 32, 33: 64, 65: 128, 129: 256, 257: 512}
	b := newBoth()
	was := 4
	for i, s := range numbered(512) {
		b.put(t, s, i)
		if to := begun[i+1]; to != 0 {
			wantRooms(t, b, to, was)
			was = to
		}
		if was > 4 {
			wantRooms(t, b, was, was-i)
		} else {
			wantRooms(t, b, 4, 0)
		}
	}
}

// TestShrinking tells the same of deletes: from 32 rooms on.
func TestShrinking(t *testing.T) {
	names := numbered(32)
	b := filled(t, names)
	wantRooms(t, b, 32, 0)
	for _, s := range names[:24] {
		b.delete(t, s)
		wantRooms(t, b, 32, 0)
	}
	b.delete(t, names[24])
	wantRooms(t, b, 16, 32)
	for i, s := range names[25:] {
		b.delete(t, s)
		wantRooms(t, b, 16, 31-i)
	}
	for i := range 10 {
		b.delete(t, "none")
		wantRooms(t, b, 16, 24-i)
		b.check(t, names)
	}
	b.settle(t)
	wantRooms(t, b, 16, 0)
	b.delete(t, "none")
	wantRooms(t, b, 8, 16)
	b.settle(t)
	b.delete(t, "none")
	wantRooms(t, b, 4, 8)
	b.settle(t)
	b.delete(t, "none")
	wantRooms(t, b, 4, 0)
	b.check(t, names)
}

// TestQuarter: fewer than a quarter as many, not as many as a quarter.
func TestQuarter(t *testing.T) {
	for _, rooms := range []int{8, 16, 32, 64, 128} {
		names := numbered(rooms)
		b := filled(t, names)
		for _, s := range names[:rooms*3/4] {
			b.delete(t, s)
		}
		b.delete(t, "none")
		wantRooms(t, b, rooms, 0)
		b.delete(t, names[rooms-1])
		wantRooms(t, b, rooms/2, rooms)
	}
}

// TestFourRooms: a table of four never shrinks.
func TestFourRooms(t *testing.T) {
	b := filled(t, numbered(4))
	for _, s := range append(numbered(4), "none", "") {
		b.delete(t, s)
		wantRooms(t, b, 4, 0)
	}
}

// TestPutOfNoNewName: a put of a name that was there begins a table too, if one is due.
func TestPutOfNoNewName(t *testing.T) {
	b := filled(t, numbered(16))
	for _, s := range numbered(13) {
		b.delete(t, s)
	}
	wantRooms(t, b, 8, 16)
	for i, s := range numbered(6) {
		b.put(t, s, i)
	}
	wantRooms(t, b, 8, 10)
	b.settle(t)
	wantRooms(t, b, 8, 0)
	c := b.clone()
	c.delete(t, "none")
	wantRooms(t, c, 8, 0)
	c.delete(t, "n0")
	c.put(t, "n1", 3)
	wantRooms(t, c, 8, 0)
	b.put(t, "n0", 77)
	wantRooms(t, b, 16, 8)
	b.check(t, numbered(20))
}

// TestDeleteOfNone: a delete of a name that is not there begins a table too, if one is due; a put does not.
func TestDeleteOfNone(t *testing.T) {
	b := newBoth()
	for i, s := range numbered(17) {
		b.put(t, s, i)
	}
	for _, s := range numbered(10) {
		b.delete(t, s)
	}
	wantRooms(t, b, 32, 6)
	b.settle(t)
	wantRooms(t, b, 32, 0)
	c := b.clone()
	c.put(t, "n16", 1)
	wantRooms(t, c, 32, 0)
	c.put(t, "n0", 1)
	c.delete(t, "none")
	wantRooms(t, c, 32, 0)
	b.delete(t, "none")
	wantRooms(t, b, 16, 32)
	b.check(t, numbered(20))
}

// TestLastStepIsFirst: the call that takes the last room over may begin the next table.
func TestLastStepIsFirst(t *testing.T) {
	b := newBoth()
	for i, s := range numbered(8) {
		b.put(t, s, i)
	}
	wantRooms(t, b, 8, 1)
	c := b.clone()
	c.put(t, "n0", 1)
	wantRooms(t, c, 8, 0)
	b.put(t, "n8", 8)
	wantRooms(t, b, 16, 8)

	b = newBoth()
	for i, s := range numbered(5) {
		b.put(t, s, i)
	}
	for _, s := range numbered(3) {
		b.delete(t, s)
	}
	wantRooms(t, b, 8, 1)
	b.delete(t, "n3")
	wantRooms(t, b, 4, 8)
	b.check(t, numbered(9))
}

// TestNoThirdTable: while there are two, no puts or deletes begin another one.
func TestNoThirdTable(t *testing.T) {
	b := newBoth()
	for i, s := range numbered(33) {
		b.put(t, s, i)
	}
	wantRooms(t, b, 64, 32)
	for i, s := range numbered(31) {
		b.delete(t, s)
		wantRooms(t, b, 64, 31-i)
	}
	b.delete(t, "none")
	wantRooms(t, b, 32, 64)
	for i, s := range numbered(63) {
		b.put(t, s, i)
		wantRooms(t, b, 32, 63-i)
	}
	b.check(t, numbered(70))
	b.put(t, "n0", 5)
	wantRooms(t, b, 64, 32)
	b.check(t, numbered(70))
}

// TestTellingDoesNoStep: no call but Put, Delete and Step takes a room over.
func TestTellingDoesNoStep(t *testing.T) {
	for _, b := range shapes(t) {
		rooms, left := b.d.Rooms()
		for range 3 {
			b.d.Get("n0")
			b.d.Get("none")
			b.d.Names()
			b.d.Len()
			b.d.Clone().Step()
		}
		wantRooms(t, b, rooms, left)
	}
}

// TestRisingRooms: behind k steps the first k rooms of the elder table are taken over, and the others not.
func TestRisingRooms(t *testing.T) {
	for _, many := range []int{5, 9, 17, 33} {
		d := New[int]()
		for i, s := range numbered(many) {
			d.Put(s, i)
		}
		steps := many - 1
		for k := range steps {
			for _, room := range d.elder[k:] {
				for _, p := range room {
					if place(*d.newer.room(p.name), p.name) >= 0 {
						t.Fatalf("P7.4: %q is in both tables", p.name)
					}
				}
			}
			want := len(d.elder[k])
			was := inTable(d.newer)
			if !d.Step() || inTable(d.newer)-was != want {
				t.Fatalf("P7.2: step %d takes %d names over, not %d", k, inTable(d.newer)-was, want)
			}
			checkPlaces(t, d)
		}
		if d.elder != nil || d.Step() {
			t.Fatal("P7.2: the elder table is still there")
		}
	}
}

func inTable[V any](t table[V]) int {
	many := 0
	for _, room := range t {
		many += len(room)
	}
	return many
}

// TestMany goes beyond as many rooms as there are sums.
func TestMany(t *testing.T) {
	const many = 70000
	d := New[int]()
	names := numbered(many)
	for i, s := range names {
		if d.Put(s, i) || d.Len() != i+1 {
			t.Fatalf("P7.1: Put(%q)", s)
		}
		if rooms, _ := d.Rooms(); inTooFew(d.Len(), rooms) {
			t.Fatalf("P7.4: %d names in %d rooms", d.Len(), rooms)
		}
	}
	if rooms, _ := d.Rooms(); rooms != 1<<17 {
		t.Fatalf("P7.2: %d rooms", rooms)
	}
	checkPlaces(t, d)
	for i, s := range names {
		if v, is := d.Get(s); v != i || !is {
			t.Fatalf("P7.4: Get(%q): %d, %t", s, v, is)
		}
	}
	rising := slices.Clone(names)
	slices.Sort(rising)
	if !slices.Equal(d.Names(), rising) {
		t.Fatal("P7.1: Names of many")
	}
	for i, s := range names {
		if !d.Delete(s) || d.Delete(s) || d.Len() != many-1-i {
			t.Fatalf("P7.1: Delete(%q)", s)
		}
	}
	for range 17 {
		for d.Step() {
		}
		d.Delete("none")
	}
	for d.Step() {
	}
	if rooms, left := d.Rooms(); rooms != 4 || left != 0 || len(d.Names()) != 0 {
		t.Fatalf("P7.2: %d, %d rooms for none", rooms, left)
	}
	checkPlaces(t, d)
}

// inTooFew: a table that was begun for a quarter as many names may be filled up to two and a half times its rooms while it shrinks; no table has more.
func inTooFew(names, rooms int) bool { return 2*names > 5*rooms }

func TestNamesToRooms(t *testing.T) {
	next := chance(70)
	for range 30 {
		b := newBoth()
		used := 0
		for i := range 2000 {
			if i/200%2 == 0 || next(4) == 0 {
				used++
				b.put(t, strconv.Itoa(used), i)
			} else if len(b.p.names) > 0 {
				b.delete(t, b.p.names[next(len(b.p.names))])
			}
			if inTooFew(inTable(b.d.newer), len(b.d.newer)) || inTooFew(inTable(b.d.elder), len(b.d.elder)) {
				t.Fatalf("P7.4: %d and %d names", inTable(b.d.newer), inTable(b.d.elder))
			}
		}
	}
}

type thing struct {
	n    int
	text string
	at   [2]int8
}

// checkType takes two values of a type through all calls; same holds two of them against each other.
func checkType[V any](t *testing.T, one, other V, same func(a, b V) bool) {
	t.Helper()
	var none V
	is := func(d *Dict[V], name string, want V, there bool) {
		t.Helper()
		if v, is := d.Get(name); is != there || !same(v, want) {
			t.Fatalf("P7.1: Get(%q) of %T: %v, %t", name, d, v, is)
		}
	}
	d := New[V]()
	is(d, "n0", none, false)
	for i, s := range numbered(9) {
		v := one
		if i%2 == 1 {
			v = other
		}
		d.Put(s, v)
		is(d, s, v, true)
	}
	c := d.Clone()
	c.Put("n0", other)
	c.Delete("n1")
	c.Put("none", none)
	is(d, "n0", one, true)
	is(d, "n1", other, true)
	is(d, "none", none, false)
	is(c, "n0", other, true)
	is(c, "n1", none, false)
	is(c, "none", none, true)
	for c.Step() {
	}
	is(c, "n8", one, true)
	checkPlaces(t, d)
	checkPlaces(t, c)
}

func TestTypes(t *testing.T) {
	n, m := 1, 1
	checkType(t, 5, 6, func(a, b int) bool { return a == b })
	checkType(t, "one", "", func(a, b string) bool { return a == b })
	checkType(t, true, false, func(a, b bool) bool { return a == b })
	checkType(t, 2i, 1, func(a, b complex128) bool { return a == b })
	checkType(t, thing{1, "a", [2]int8{3, 4}}, thing{}, func(a, b thing) bool { return a == b })
	checkType(t, struct{}{}, struct{}{}, func(a, b struct{}) bool { return true })
	checkType(t, &n, &m, func(a, b *int) bool { return a == b })
	checkType(t, []string{"a"}, []string{"b", "c"}, slices.Equal[[]string])
	checkType(t, any("a"), any(3), func(a, b any) bool { return a == b })
	checkType(t, New[int](), New[int](), func(a, b *Dict[int]) bool { return a == b })
	checkType(t, func() int { return 1 }, func() int { return 2 }, func(a, b func() int) bool {
		return a == nil && b == nil || a != nil && b != nil && a() == b()
	})
}

// TestValuesAreCopied: as the language copies them: an array is one's own, what a slice shares stays shared.
func TestValuesAreCopied(t *testing.T) {
	arrays := New[[3]int]()
	a := [3]int{1, 2, 3}
	arrays.Put("a", a)
	a[0] = 9
	got, _ := arrays.Get("a")
	got[1] = 9
	c := arrays.Clone()
	if v, _ := arrays.Get("a"); v != [3]int{1, 2, 3} {
		t.Errorf("P7.1: %v", v)
	}
	if v, _ := c.Get("a"); v != [3]int{1, 2, 3} {
		t.Errorf("P7.1: the clone's: %v", v)
	}
	slicesOf := New[[]int]()
	slicesOf.Put("a", []int{1, 2})
	l, _ := slicesOf.Clone().Get("a")
	l[0] = 7
	if v, _ := slicesOf.Get("a"); v[0] != 7 {
		t.Errorf("P7.1: a slice was copied beyond what the language copies: %v", v)
	}
}

// TestClones changes each side by each call, at each shape.
func TestClones(t *testing.T) {
	names := append(numbered(18), "", "\x00n16")
	for _, shape := range shapes(t) {
		for one := range 9 {
			for other := range 9 {
				b := shape.clone()
				c := b.clone()
				c.check(t, names)
				b.doOne(t, one, 500)
				c.check(t, names)
				c.doOne(t, other, 600)
				b.check(t, names)
				c.check(t, names)
				b.settle(t)
				c.check(t, names)
				c.settle(t)
				b.check(t, names)
			}
		}
	}
}

// TestClonesOfOneRoom: both sides lay another name behind the same ones.
func TestClonesOfOneRoom(t *testing.T) {
	names := alike(20, "x")
	for many := range 12 {
		b := newBoth()
		for i, s := range names[:many] {
			b.put(t, s, i)
		}
		c := b.clone()
		for i := range 4 {
			b.put(t, names[12+i], 100+i)
			c.put(t, names[16+i], 200+i)
		}
		b.check(t, names)
		c.check(t, names)
		for i := range many {
			if i%2 == 0 {
				b.delete(t, names[i])
			} else {
				c.delete(t, names[i])
			}
			b.check(t, names)
			c.check(t, names)
		}
	}
}

func TestOwnMemory(t *testing.T) {
	for _, b := range shapes(t) {
		l := b.d.Names()
		was := slices.Clone(l)
		for i := range l {
			l[i] = "written"
		}
		_ = append(l, "behind")
		b.check(t, was)
		l = b.d.Names()
		b.put(t, "new", 1)
		b.delete(t, "n0")
		b.settle(t)
		if !slices.Equal(l, was) {
			t.Fatalf("R6: what Names told: %q, not %q", l, was)
		}
	}
}

// TestSameAgain: the order in which names came is not to be seen.
func TestSameAgain(t *testing.T) {
	names := append(numbered(20), strange()...)
	one, other := New[int](), New[int]()
	for i := range names {
		one.Put(names[i], i)
		other.Put(names[len(names)-1-i], i)
	}
	if !slices.Equal(one.Names(), other.Names()) || !slices.Equal(one.Names(), one.Names()) {
		t.Errorf("R7: %q and %q", one.Names(), other.Names())
	}
}
