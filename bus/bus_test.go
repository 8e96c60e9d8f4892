package bus

import (
	"math"
	"slices"
	"strconv"
	"testing"

	"marshalyard/api"
)

// chance is a row of numbers that look like chance, the same at every run.
type chance uint64

func (c *chance) next() uint64 {
	*c = *c*6364136223846793005 + 1442695040888963407
	return uint64(*c)>>32 ^ uint64(*c)<<31
}

func (c *chance) below(n int) int { return int(c.next() >> 1 % uint64(n)) }

const top = 1 << 62 // The greatest epoch that is taken in.

// slots are those for which is holds.
func slots(is func(n int) bool) api.Bits {
	var b api.Bits
	for n := range api.Slots {
		if is(n) {
			b[n/64] |= 1 << (n % 64)
		}
	}
	return b
}

func these(l ...int) api.Bits { return slots(func(n int) bool { return slices.Contains(l, n) }) }

func span(from, to int) api.Bits { return slots(func(n int) bool { return from <= n && n <= to }) }

var edgeNodes = []int{math.MinInt, -1 << 32, -256, -64, -2, -1, 0, 1, 2, 5, 31, 62, 63, 64, 65, 127, 128, 255, 256, 257, 1 << 32, 1<<32 + 1, math.MaxInt}

var edgeSlots = []int{math.MinInt, -1 << 32, -16384, -64, -1, 0, 1, 63, 64, 8191, 16382, 16383, 16384, 16385, 32768, 1 << 32, math.MaxInt}

var edgeEpochs = []uint64{0, 1, 2, 255, 1 << 32, top - 1, top, top + 1, 1 << 63, math.MaxUint64}

// both are a bus and its model, new.
func both(t *testing.T, self int, claims api.Bits, epoch uint64) (*Bus, *plain) {
	t.Helper()
	b, e := New(self, claims, epoch)
	m, want := newPlain(self, claims, epoch)
	if e != want || e != api.OK || b == nil {
		t.Fatalf("P16.1: New(%d, .., %d): %d, not %d", self, epoch, e, want)
	}
	return b, m
}

// world is the bus of node 2 at epoch 5 that owns the slots 0-3; node 1 has 4-7 at 3, node 3 has 8-11 at 7, node 5 has 12-15 at 9. Current is 20.
func world(t *testing.T) (*Bus, *plain) {
	t.Helper()
	b, m := both(t, 2, span(0, 3), 5)
	for _, p := range []api.Packet{
		{Kind: api.Update, From: 9, Of: 1, Epoch: 3, Current: 20, Claims: span(4, 7)},
		{Kind: api.Update, From: 9, Of: 3, Epoch: 7, Current: 8, Claims: span(8, 11)},
		{Kind: api.Update, From: 9, Of: 5, Epoch: 9, Current: 9, Claims: span(12, 15)},
	} {
		checkTake(t, b, m, written(p), true)
	}
	return b, m
}

// checkTake does Take on both, and holds it against what is wanted.
func checkTake(t *testing.T, b *Bus, m *plain, s string, want bool) {
	t.Helper()
	if got := b.Take(s); got != want || m.take(s) != want {
		t.Fatalf("P16.2: Take: %v: %s", got, brief(Out{-1, s}))
	}
}

// checkTells does Ping or Meet, by its Kind, on both.
func checkTells(t *testing.T, b *Bus, m *plain, kind, to int, want api.Errno) {
	t.Helper()
	tells := b.Ping
	if kind == api.Meet {
		tells = b.Meet
	}
	if e, model := tells(to), m.tells(kind, to); e != want || model != want {
		t.Fatalf("P16.2: node %d tells %d by Kind %d: %d, not %d", m.self, to, kind, e, want)
	}
}

func TestWorld(t *testing.T) {
	b, m := world(t)
	checkBoth(t, "P16.2: the world", b, m)
	for n, want := range []int{2, 2, 2, 2, 1, 1, 1, 1, 3, 3, 3, 3, 5, 5, 5, 5, -1} {
		if got := b.View().Owner(n); got != want {
			t.Errorf("P16.2: Owner(%d): %d, not %d", n, got, want)
		}
	}
}

func TestNewAtItsBounds(t *testing.T) {
	for _, self := range edgeNodes {
		for _, epoch := range edgeEpochs {
			b, e := New(self, these(1, 9), epoch)
			want := api.OK
			switch {
			case self < 0 || self >= api.MaxNodes: // Named first.
				want = api.ErrViewNode
			case epoch > top:
				want = api.ErrArg
			}
			if e != want || (b == nil) != (want != api.OK) {
				t.Fatalf("P16.1: New(%d, .., %d): %v, %d, not %d", self, epoch, b != nil, e, want)
			}
			if want != api.OK {
				continue
			}
			if v := b.View(); v.Self() != self || v.Epoch(self) != epoch || v.Current() != epoch || v.Owner(9) != self || v.Owner(8) != -1 {
				t.Fatalf("P16.1: New(%d, .., %d): Self %d, Epoch %d, Current %d", self, epoch, v.Self(), v.Epoch(self), v.Current())
			}
		}
	}
}

func TestNewHasThatView(t *testing.T) {
	for i, claims := range []api.Bits{
		{}, span(0, 16383), these(0), these(16383), these(0, 16383), these(63, 64), span(1, 16382), span(5461, 10922),
		slots(func(n int) bool { return n%2 == 0 }), slots(func(n int) bool { return n/64%3 == 1 }),
	} {
		for _, self := range []int{0, 7, api.MaxNodes - 1} {
			b, m := both(t, self, claims, uint64(i))
			checkBoth(t, "P16.1: New", b, m) // And nothing has gone out.
			checkTells(t, b, m, api.Ping, 3, api.OK)
			checkTells(t, b, m, api.Meet, 4, api.OK)
			checkBoth(t, "P16.3: what all claims are told as", b, m)
		}
	}
}

// The chapter's examples.
func TestExamples(t *testing.T) {
	b, e := New(0, span(0, 4), 1)
	if e != api.OK || b.Ping(1) != api.OK {
		t.Fatal("the first example:", e)
	}
	if l := b.Outs(); len(l) != 1 || l[0].To != 1 {
		t.Fatal("the first example:", len(l))
	}
	if !b.Take(written(api.Packet{Kind: api.Ping, From: 1, Epoch: 2, Current: 2, Claims: these(5)})) {
		t.Error("the second example")
	}
	if l := b.Outs(); len(l) != 1 || l[0] != (Out{1, written(api.Packet{Kind: api.Pong, Epoch: 1, Current: 2, Claims: span(0, 4)})}) {
		t.Error("the second example:", len(l))
	}
	if b.Take("x") {
		t.Error("the third example")
	}
}

// What goes out, told by hand, byte by byte.
func TestBytesThatGoOut(t *testing.T) {
	b, _ := both(t, 1, these(5), 2)
	b.Take(written(api.Packet{Kind: api.Update, From: 8, Of: 9, Epoch: 3, Current: 3}))
	b.Ping(63)
	b.Meet(0)
	checkOuts(t, "P16.3", b.Outs(), []Out{
		{63, "\x01\x01\x00" + "\x00\x00\x00\x00\x00\x00\x00\x02" + "\x00\x00\x00\x00\x00\x00\x00\x03" + "\x00\x01" + "5" + "\x70\xdf"},
		{0, withSum("\x04\x01\x00" + "\x00\x00\x00\x00\x00\x00\x00\x02" + "\x00\x00\x00\x00\x00\x00\x00\x03" + "\x00\x01" + "5")},
	})
}

// A view that was told is the caller's: what it is made to do changes neither the bus nor another such view, and the bus changes none of them.
func TestViewIsAClone(t *testing.T) {
	b, m := world(t)
	v, left := b.View(), b.View()
	if v == left {
		t.Fatal("P16.1: View is one and the same view twice")
	}
	before := m.clone()
	heard := api.Packet{Kind: api.Ping, From: 3, Epoch: 60, Current: 70, Claims: span(0, 5)}
	v.Win(40, 50)
	v.Give(0, 6)
	if len(v.Take(heard)) != 1 {
		t.Error("P16.1: a view that was told takes nothing in")
	}
	checkBoth(t, "R6: a view that was told, written into", b, m)
	checkTells(t, b, m, api.Ping, 1, api.OK)
	checkBoth(t, "R6: what the bus tells, a view being written into", b, m)
	checkTake(t, b, m, written(heard), true)
	b.Win(41, 100)
	m.win(41, 100)
	b.Give(1, 7)
	m.give(1, 7)
	checkSees(t, "R6: a view that was told before", left, before)
	checkBoth(t, "P16.1: View is as the bus is now", b, m)
}

func TestPingAndMeetAtTheirBounds(t *testing.T) {
	for _, self := range []int{0, 1, 31, 62, 63} {
		b, m := both(t, self, span(3, 9), 4)
		for _, kind := range []int{api.Ping, api.Meet} {
			for _, to := range append(slices.Clone(edgeNodes), self, self-1, self+1) {
				want := api.OK
				if to < 0 || to >= api.MaxNodes || to == self {
					want = api.ErrViewNode
				}
				checkTells(t, b, m, kind, to, want)
				if l := b.Outs(); want == api.OK {
					checkOuts(t, "P16.2", l, []Out{{to, written(api.Packet{Kind: kind, From: self, Epoch: 4, Current: 4, Claims: span(3, 9)})}})
				} else {
					checkOuts(t, "R2", l, nil)
				}
				m.told()
			}
		}
		checkBoth(t, "P16.2: to tell changes nothing", b, m)
	}
}

// What goes out is what is known when it is told, not when Outs is called.
func TestWhatIsToldIsOfItsTime(t *testing.T) {
	b, m := world(t)
	checkTells(t, b, m, api.Ping, 1, api.OK)
	b.Win(5, 30)
	m.win(5, 30)
	checkTells(t, b, m, api.Ping, 1, api.OK)
	b.Give(0, 1)
	m.give(0, 1)
	checkTells(t, b, m, api.Meet, 3, api.OK)
	checkTake(t, b, m, written(api.Packet{Kind: api.Pong, From: 7, Epoch: 50, Current: 60, Claims: these(1, 2)}), true)
	checkTells(t, b, m, api.Ping, 63, api.OK)
	of := func(kind int, epoch, current uint64, l ...int) string {
		return written(api.Packet{Kind: kind, From: 2, Epoch: epoch, Current: current, Claims: these(l...)})
	}
	m.outs = []Out{
		{1, of(api.Ping, 5, 20, 0, 1, 2, 3)},
		{1, of(api.Ping, 31, 31, 0, 1, 2, 3, 5)},
		{3, of(api.Meet, 31, 31, 1, 2, 3, 5)},
		{63, of(api.Ping, 31, 60, 3, 5)},
	}
	checkBoth(t, "P16.2: told by hand", b, m)
}

// checkRefused tells that Take does nothing at all with s, whatever went out ahead of it.
func checkRefused(t *testing.T, b *Bus, m *plain, what, s string) {
	t.Helper()
	checkTells(t, b, m, api.Ping, 1, api.OK)
	checkTake(t, b, m, s, false)
	checkTells(t, b, m, api.Ping, 3, api.OK)
	checkOuts(t, "P16.2: "+what, b.Outs(), m.told())
	if v := b.View(); v.Current() != 20 || v.Owner(0) != 2 || v.Owner(9) != 3 || v.Owner(16) != -1 || v.Epoch(1) != 3 || v.Epoch(2) != 5 || v.Epoch(8) != 0 {
		t.Fatalf("P16.4: %s: Current %d, Epoch(2) %d, Owner(16) %d", what, v.Current(), v.Epoch(2), v.Owner(16))
	}
}

// What is not a packet's writing: cut, with bytes behind, with bits turned, with a wrong sum.
func TestTakeOfSpoiltWritings(t *testing.T) {
	b, m := world(t)
	for kind := api.Ping; kind <= api.Meet; kind++ {
		p := api.Packet{Kind: kind, From: 8, Epoch: 30, Current: 40, Claims: these(0, 9, 16)}
		if kind == api.Update {
			p.Of = 1
		}
		s := written(p)
		what := "Kind " + strconv.Itoa(kind)
		for n := range len(s) {
			checkRefused(t, b, m, what+", cut", s[:n])
			checkRefused(t, b, m, what+", cut ahead", s[n+1:])
			for bit := range 8 {
				spoilt := []byte(s)
				spoilt[n] ^= 1 << bit
				checkRefused(t, b, m, what+", a bit turned", string(spoilt))
			}
		}
		for _, behind := range []string{"\x00", "x", "\r\n", "\x00\x00", s} {
			checkRefused(t, b, m, what+", bytes behind", s+behind)
			checkRefused(t, b, m, what+", bytes ahead", behind+s)
		}
		for _, sum := range []string{"\x00\x00", "\xff\xff", s[len(s)-1:] + s[len(s)-2:len(s)-1]} {
			checkRefused(t, b, m, what+", a wrong sum", s[:len(s)-2]+sum)
		}
	}
	checkBoth(t, "P16.4: what is not a packet", b, m)
}

// Writings with a right sum, of no packet.
func TestTakeOfWhatIsNoPacket(t *testing.T) {
	b, m := world(t)
	for _, p := range []api.Packet{
		{Kind: 0, From: 8, Epoch: 30, Current: 40, Claims: these(16)},
		{Kind: 5, From: 8, Epoch: 30, Current: 40, Claims: these(16)},
		{Kind: 255, From: 8, Epoch: 30, Current: 40, Claims: these(16)},
		{Kind: api.Ping, From: 64, Epoch: 30, Current: 40, Claims: these(16)},
		{Kind: api.Update, From: 255, Of: 8, Epoch: 30, Current: 40, Claims: these(16)},
		{Kind: api.Update, From: 8, Of: 64, Epoch: 30, Current: 40, Claims: these(16)},
		{Kind: api.Ping, From: 8, Of: 1, Epoch: 30, Current: 40, Claims: these(16)},
		{Kind: api.Pong, From: 8, Of: 8, Epoch: 30, Current: 40, Claims: these(16)},
		{Kind: api.Meet, From: 8, Epoch: 41, Current: 40, Claims: these(16)},
	} {
		checkRefused(t, b, m, "not Right", written(p))
	}
	head := "\x01\x08\x00" + eight(30) + eight(40)
	for _, claims := range []string{"16384", "016", "16 ", " 16", "16  18", "17 16", "16-16", "16 17", "x", "-1", "16-", "16,18", "18-16"} {
		checkRefused(t, b, m, "Claims that are none", withSum(head+two(len(claims))+claims))
	}
	for _, count := range []int{0, 1, 3, 512, 65535} {
		checkRefused(t, b, m, "a wrong count", withSum(head+two(count)+"16"))
	}
	for _, s := range []string{"", "\x00", "x", "\x00\x00", "PING\r\n", string(make([]byte, 23)), string(make([]byte, 1000)), withSum(""), withSum(head)} {
		checkRefused(t, b, m, "bytes of another kind", s)
	}
	checkBoth(t, "P16.4: what is not a packet", b, m)
}

// The node's own packets, of each Kind, and as they went out themselves.
func TestTakeOfItsOwn(t *testing.T) {
	b, m := world(t)
	for kind := api.Ping; kind <= api.Meet; kind++ {
		for _, of := range []int{0, 1, 2, 8, 63} {
			for _, epoch := range []uint64{0, 5, 30} {
				p := api.Packet{Kind: kind, From: 2, Epoch: epoch, Current: 40, Claims: these(0, 9, 16)}
				if kind == api.Update {
					p.Of = of
				}
				checkRefused(t, b, m, "the node's own", written(p))
			}
		}
	}
	checkTells(t, b, m, api.Ping, 1, api.OK)
	checkTells(t, b, m, api.Meet, 1, api.OK)
	m.told()
	for _, o := range b.Outs() {
		checkRefused(t, b, m, "what it sent itself", o.Bytes)
	}
	checkBoth(t, "P16.2: the node's own", b, m)
}

// Each Kind, and what goes out then, to whom, in which order.
func TestAnswersByHand(t *testing.T) {
	own := func(epoch, current uint64, l ...int) string {
		return written(api.Packet{Kind: api.Pong, From: 2, Epoch: epoch, Current: current, Claims: these(l...)})
	}
	of := func(node int, epoch, current uint64, claims api.Bits) string {
		return written(api.Packet{Kind: api.Update, From: 2, Of: node, Epoch: epoch, Current: current, Claims: claims})
	}
	cases := []struct {
		what string
		p    api.Packet
		outs []Out
	}{
		{"a Ping", api.Packet{Kind: api.Ping, From: 7, Epoch: 1, Current: 1, Claims: these(30)}, []Out{{7, own(5, 20, 0, 1, 2, 3)}}},
		{"a Meet", api.Packet{Kind: api.Meet, From: 7, Epoch: 1, Current: 1, Claims: these(30)}, []Out{{7, own(5, 20, 0, 1, 2, 3)}}},
		{"a Pong", api.Packet{Kind: api.Pong, From: 7, Epoch: 1, Current: 1, Claims: these(30)}, nil},
		{"an Update", api.Packet{Kind: api.Update, From: 7, Of: 6, Epoch: 1, Current: 1, Claims: these(30)}, nil},
		{"an Update of claims that are another's", api.Packet{Kind: api.Update, From: 7, Of: 6, Epoch: 1, Current: 1, Claims: these(0, 9)}, nil},
		{"from the least number", api.Packet{Kind: api.Ping, From: 0, Epoch: 1, Current: 1}, []Out{{0, own(5, 20, 0, 1, 2, 3)}}},
		{"from the greatest number", api.Packet{Kind: api.Ping, From: 63, Epoch: 1, Current: 1}, []Out{{63, own(5, 20, 0, 1, 2, 3)}}},
		{"a greater Current", api.Packet{Kind: api.Ping, From: 7, Epoch: 1, Current: 99}, []Out{{7, own(5, 99, 0, 1, 2, 3)}}},
		{"the node's epoch, and a greater number", api.Packet{Kind: api.Ping, From: 7, Epoch: 5, Current: 99}, []Out{{7, own(100, 100, 0, 1, 2, 3)}}},
		{"the node's slot, at a greater epoch", api.Packet{Kind: api.Meet, From: 7, Epoch: 6, Current: 6, Claims: these(1)}, []Out{{7, own(5, 20, 0, 2, 3)}}},
		{"the node's slot, at a lesser epoch", api.Packet{Kind: api.Ping, From: 7, Epoch: 4, Current: 4, Claims: these(1)},
			[]Out{{7, own(5, 20, 0, 1, 2, 3)}, {7, of(2, 5, 20, span(0, 3))}}},
		{"3's slot, at a lesser epoch: to the one who claims it, not to 3", api.Packet{Kind: api.Meet, From: 7, Epoch: 4, Current: 4, Claims: these(9)},
			[]Out{{7, own(5, 20, 0, 1, 2, 3)}, {7, of(3, 7, 20, span(8, 11))}}},
		{"a Pong likewise: the Update alone", api.Packet{Kind: api.Pong, From: 7, Epoch: 4, Current: 4, Claims: these(9)}, []Out{{7, of(3, 7, 20, span(8, 11))}}},
		{"3's and 5's: of the first", api.Packet{Kind: api.Pong, From: 7, Epoch: 4, Current: 4, Claims: these(11, 12)}, []Out{{7, of(3, 7, 20, span(8, 11))}}},
	}
	for _, c := range cases {
		b, m := world(t)
		checkTake(t, b, m, written(c.p), true)
		checkOuts(t, "P16.2: "+c.what, m.told(), c.outs)
		checkOuts(t, "P16.2: "+c.what, b.Outs(), c.outs)
		checkBoth(t, "P16.2: "+c.what, b, m)
	}
}

// Packets from others of which the view takes nothing in: they are taken still.
func TestTakenThoughOfNoUse(t *testing.T) {
	b, m := world(t)
	state := m.clone()
	for _, p := range []api.Packet{
		{Kind: api.Ping, From: 1, Epoch: 30, Current: top + 1, Claims: these(0, 16)},
		{Kind: api.Pong, From: 1, Epoch: top + 1, Current: top + 1, Claims: these(0, 16)},
		{Kind: api.Meet, From: 1, Epoch: math.MaxUint64, Current: math.MaxUint64, Claims: these(0, 16)},
		{Kind: api.Update, From: 1, Of: 3, Epoch: 30, Current: 1 << 63, Claims: these(0, 16)},
		{Kind: api.Update, From: 1, Of: 2, Epoch: 30, Current: 30, Claims: these(0, 16)}, // Of the node itself.
		{Kind: api.Update, From: 63, Of: 2, Epoch: 5, Current: 5},
	} {
		checkTake(t, b, m, written(p), true)
		checkOuts(t, "P16.2: "+brief(Out{-1, written(p)}), b.Outs(), nil)
	}
	checkBoth(t, "P16.2: of no use", b, state)
	// What is just of use.
	checkTake(t, b, m, written(api.Packet{Kind: api.Ping, From: 7, Epoch: top, Current: top, Claims: these(0, 16)}), true)
	if v := b.View(); v.Epoch(7) != top || v.Owner(0) != 7 || v.Owner(16) != 7 {
		t.Errorf("P16.2: the greatest epoch: Epoch(7) %d, Owner(0) %d", v.Epoch(7), v.Owner(0))
	}
	checkBoth(t, "P16.2: the greatest epoch", b, m)
}

// The same bytes twice: taken twice, and answered twice.
func TestTwice(t *testing.T) {
	for kind := api.Ping; kind <= api.Meet; kind++ {
		for epoch := range uint64(12) {
			b, m := world(t)
			p := api.Packet{Kind: kind, From: 7, Epoch: epoch, Current: 12, Claims: these(0, 4, 8, 12, 16)}
			if kind == api.Update {
				p.Of = 6
			}
			s := written(p)
			for range 3 {
				checkTake(t, b, m, s, true)
			}
			if asks := kind == api.Ping || kind == api.Meet; asks && len(m.outs) < 3 {
				t.Fatalf("P16.2: thrice the same bytes: %d answers", len(m.outs))
			}
			checkBoth(t, "P16.2: thrice the same bytes", b, m)
			state := m.clone()
			checkTake(t, b, m, s, true)
			m.told()
			b.Outs()
			checkBoth(t, "P16.2: nothing new by the same bytes", b, state)
		}
	}
}

// Outs tells each once, in order, whatever is called between.
func TestOutsTwice(t *testing.T) {
	b, m := world(t)
	for range 3 {
		checkOuts(t, "P16.3: nothing has gone out", b.Outs(), nil)
	}
	for many := range 70 {
		for i := range many {
			switch i % 4 {
			case 0, 1:
				checkTells(t, b, m, api.Ping, 3+many%5, api.OK)
			case 2:
				checkTells(t, b, m, api.Meet, many%2, api.OK)
			case 3:
				checkTake(t, b, m, written(api.Packet{Kind: api.Ping, From: 8 + i%50, Epoch: 1, Current: uint64(many), Claims: these(i)}), true)
			}
		}
		checkOuts(t, "P16.3: "+strconv.Itoa(many)+" calls", b.Outs(), m.told())
		checkOuts(t, "P16.3: Outs a second time", b.Outs(), nil)
	}
	// Calls that fail, and those that tell, leave what has gone out.
	checkTells(t, b, m, api.Ping, 1, api.OK)
	checkTells(t, b, m, api.Ping, 2, api.ErrViewNode)
	checkTells(t, b, m, api.Meet, -1, api.ErrViewNode)
	checkTake(t, b, m, "x", false)
	b.View()
	b.Win(-1, 0)
	b.Win(7, 0)
	m.win(7, 0)
	b.Give(0, 64)
	b.Give(7, 1)
	m.give(7, 1)
	checkBoth(t, "P16.3: what has gone out stays till Outs", b, m)
}

// What Outs told is the caller's: to write into it, and to lay more behind it, changes nothing that is told later; and what goes out later does not change it.
func TestOutsAreTheCallers(t *testing.T) {
	b, m := world(t)
	var kept, want [][]Out
	for round := range 20 {
		for i := range 1 + round%7 {
			checkTells(t, b, m, api.Ping, 3+i, api.OK)
		}
		l, told := b.Outs(), m.told()
		checkOuts(t, "P16.3", l, told)
		kept, want = append(kept, l), append(want, slices.Clone(told))
		if round%2 == 1 {
			for i := range l {
				l[i] = Out{To: -1, Bytes: "mine"}
			}
			l = append(l, Out{To: -2, Bytes: "mine"})
			l = append(l[:0], l[1:]...)
			want[round] = slices.Clone(kept[round])
		}
		b.Win(20+round, 0)
		m.win(20+round, 0)
	}
	for i := range kept {
		checkOuts(t, "R6: what was told in the round "+strconv.Itoa(i), kept[i], want[i])
	}
	checkBoth(t, "R6: what Outs told", b, m)
}

// Claims that were handed in may be written into later, and the same calls tell the same.
func TestNothingIsKept(t *testing.T) {
	claims := span(0, 3)
	b, e := New(2, claims, 5)
	m, _ := newPlain(2, claims, 5)
	if e != api.OK {
		t.Fatal("P16.1:", e)
	}
	claims[0] = math.MaxUint64
	checkBoth(t, "R6: New's claims", b, m)
	c, _ := both(t, 2, span(0, 3), 5)
	for _, x := range []*Bus{b, c} {
		x.Ping(1)
		x.Take(written(api.Packet{Kind: api.Meet, From: 3, Epoch: 5, Current: 5, Claims: these(1, 9)}))
		x.Win(9, 0)
		x.Meet(63)
	}
	checkOuts(t, "R7: the same calls", b.Outs(), c.Outs())
}

func TestWinAndGiveAtTheirBounds(t *testing.T) {
	for _, n := range edgeSlots {
		is := n >= 0 && n < api.Slots
		for _, least := range edgeEpochs {
			b, m := world(t)
			want := api.ErrArg
			if is && least <= top {
				want = api.OK
			}
			if e, model := b.Win(n, least), m.win(n, least); e != want || e != model {
				t.Fatalf("P16.1: Win(%d, %d): %d, not %d", n, least, e, want)
			}
			what := "P16.1: Win(" + strconv.Itoa(n) + ", " + strconv.FormatUint(least, 10) + ")"
			checkOuts(t, what+": nothing goes out by itself", b.Outs(), nil)
			checkTells(t, b, m, api.Ping, 1, api.OK)
			checkBoth(t, what, b, m)
			if v := b.View(); want == api.OK && (v.Owner(n) != 2 || v.Current() != 1+max(20, least) || v.Epoch(2) != v.Current()) {
				t.Fatalf("%s: Owner %d, Current %d, Epoch %d", what, v.Owner(n), v.Current(), v.Epoch(2))
			}
		}
		for _, node := range edgeNodes {
			b, m := world(t)
			want := api.OK
			switch {
			case !is: // Named first.
				want = api.ErrArg
			case node < 0 || node >= api.MaxNodes:
				want = api.ErrViewNode
			}
			if e, model := b.Give(n, node), m.give(n, node); e != want || e != model {
				t.Fatalf("P16.1: Give(%d, %d): %d, not %d", n, node, e, want)
			}
			what := "P16.1: Give(" + strconv.Itoa(n) + ", " + strconv.Itoa(node) + ")"
			checkOuts(t, what+": nothing goes out by itself", b.Outs(), nil)
			checkTells(t, b, m, api.Meet, 1, api.OK)
			checkBoth(t, what, b, m)
			if v := b.View(); want == api.OK && (v.Owner(n) != node || v.Current() != 20 || v.Epoch(2) != 5) {
				t.Fatalf("%s: Owner %d, Current %d, Epoch %d", what, v.Owner(n), v.Current(), v.Epoch(2))
			}
		}
	}
}

// A slot that is won and given away, and what others are told of it: by a Ping, and by the Updates that a claim of it is answered.
func TestWhatIsToldOfWonAndGiven(t *testing.T) {
	b, m := world(t)
	if b.Win(9, 40) != api.OK || m.win(9, 40) != 0 {
		t.Fatal("P16.1: Win")
	}
	checkTells(t, b, m, api.Ping, 3, api.OK)
	checkTake(t, b, m, written(api.Packet{Kind: api.Pong, From: 3, Epoch: 7, Current: 8, Claims: span(8, 11)}), true)
	mine := api.Packet{Kind: api.Ping, From: 2, Epoch: 41, Current: 41, Claims: these(0, 1, 2, 3, 9)}
	update := mine
	update.Kind, update.Of = api.Update, 2
	checkOuts(t, "P16.1: what is told of a slot that was won", b.Outs(), []Out{{3, written(mine)}, {3, written(update)}})
	if b.Give(0, 5) != api.OK {
		t.Fatal("P16.1: Give")
	}
	checkOuts(t, "P16.1: nothing goes out by itself", b.Outs(), nil)
	b.Take(written(api.Packet{Kind: api.Ping, From: 7, Epoch: 8, Current: 8, Claims: these(0)}))
	pong := mine
	pong.Kind, pong.Claims = api.Pong, these(1, 2, 3, 9)
	checkOuts(t, "P16.1: what is told of a slot that was given", b.Outs(), []Out{
		{7, written(pong)},
		{7, written(api.Packet{Kind: api.Update, From: 2, Of: 5, Epoch: 9, Current: 41, Claims: these(0, 12, 13, 14, 15)})},
	})
	b.Take(written(api.Packet{Kind: api.Ping, From: 5, Epoch: 10, Current: 41, Claims: these(0, 12)}))
	if v := b.View(); v.Owner(0) != 5 || v.Owner(13) != -1 || v.Epoch(5) != 10 {
		t.Errorf("P16.1: Owner(0) %d, Owner(13) %d", v.Owner(0), v.Owner(13))
	}
}
