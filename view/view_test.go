package view

import (
	"math"
	"slices"
	"strconv"
	"testing"

	"marshalyard/api"
)

// chance is a row of numbers that look like chance, the same at every run.
type chance uint64

func (c *chance) next() uint64 {
	*c = *c*6364136223846793005 + 1442695040888963407
	return uint64(*c)>>32 ^ uint64(*c)<<31
}

func (c *chance) below(n int) int { return int(c.next() >> 1 % uint64(n)) }

const top = 1 << 62 // The greatest epoch that is taken in.

// slots are those for which is holds.
func slots(is func(n int) bool) api.Bits {
	var b api.Bits
	for n := range api.Slots {
		if is(n) {
			b[n/64] |= 1 << (n % 64)
		}
	}
	return b
}

func these(l ...int) api.Bits { return slots(func(n int) bool { return slices.Contains(l, n) }) }

func span(from, to int) api.Bits { return slots(func(n int) bool { return from <= n && n <= to }) }

func all() api.Bits { return span(0, api.Slots-1) }

// both are a view and its model, new.
func both(t *testing.T, self int, claims api.Bits, epoch uint64) (*View, *plain) {
	t.Helper()
	v, e := New(self, claims, epoch)
	m, want := newPlain(self, claims, epoch)
	if e != want || e != api.OK || v == nil {
		t.Fatalf("P15.1: New(%d, .., %d): %d, not %d", self, epoch, e, want)
	}
	return v, m
}

// world is a view of node 2 at epoch 5 that owns the slots 0-3; node 1 has 4-7 at 3, node 3 has 8-11 at 7, node 4 has 12-15 at 5 (which is 2's own); node 5 has 16-19 at 9. Current is 20.
func world(t *testing.T) (*View, *plain) {
	t.Helper()
	v, m := both(t, 2, span(0, 3), 5)
	for _, p := range []api.Packet{
		{Kind: api.Update, From: 9, Of: 1, Epoch: 3, Current: 20, Claims: span(4, 7)},
		{Kind: api.Update, From: 9, Of: 3, Epoch: 7, Current: 8, Claims: span(8, 11)},
		{Kind: api.Update, From: 9, Of: 4, Epoch: 5, Current: 5, Claims: span(12, 15)},
		{Kind: api.Update, From: 9, Of: 5, Epoch: 9, Current: 9, Claims: span(16, 19)},
	} {
		checkPackets(t, "P15.3: an Update is not answered", v.Take(p), nil)
		m.take(p)
	}
	return v, m
}

func TestWorld(t *testing.T) {
	v, m := world(t)
	checkAll(t, "P15.3: the world", v, m)
	for n, want := range []int{2, 2, 2, 2, 1, 1, 1, 1, 3, 3, 3, 3, 4, 4, 4, 4, 5, 5, 5, 5, -1} {
		if v.Owner(n) != want {
			t.Errorf("P15.3: Owner(%d): %d, not %d", n, v.Owner(n), want)
		}
	}
}

var edgeNodes = []int{math.MinInt, math.MinInt + 1, -1 << 32, -257, -256, -255, -65, -64, -2, -1, 0, 1, 2, 31, 32, 62, 63, 64, 65, 127, 128, 129, 255, 256, 257, 1 << 32, 1<<32 + 1, math.MaxInt}

var edgeSlots = []int{math.MinInt, -1 << 32, -16384, -16383, -256, -64, -1, 0, 1, 63, 64, 65, 255, 256, 8191, 8192, 16382, 16383, 16384, 16385, 32768, 65536, 1 << 32, math.MaxInt}

var edgeEpochs = []uint64{0, 1, 2, 255, 256, 1<<32 - 1, 1 << 32, top - 1, top, top + 1, 1<<63 - 1, 1 << 63, math.MaxUint64 - 1, math.MaxUint64}

func TestNewAtItsBounds(t *testing.T) {
	for _, self := range edgeNodes {
		for _, epoch := range edgeEpochs {
			v, e := New(self, these(1, 9), epoch)
			want := api.OK
			switch {
			case self < 0 || self >= api.MaxNodes: // Named first.
				want = api.ErrViewNode
			case epoch > top:
				want = api.ErrArg
			}
			if e != want || (v == nil) != (want != api.OK) {
				t.Fatalf("P15.1: New(%d, .., %d): %v, %d, not %d", self, epoch, v != nil, e, want)
			}
			if want == api.OK && (v.Self() != self || v.Epoch(self) != epoch || v.Current() != epoch || v.Owner(9) != self || v.Owner(8) != -1) {
				t.Fatalf("P15.1: New(%d, .., %d): Self %d, Epoch %d, Current %d", self, epoch, v.Self(), v.Epoch(self), v.Current())
			}
		}
	}
}

func TestNewOwnsItsClaims(t *testing.T) {
	for i, claims := range []api.Bits{
		{}, all(), these(0), these(16383), these(0, 16383), these(63, 64), span(1, 16382), span(5461, 10922),
		slots(func(n int) bool { return n%2 == 0 }), slots(func(n int) bool { return n%3 != 1 }), slots(func(n int) bool { return n/64%2 == 1 }),
	} {
		for _, self := range []int{0, 7, api.MaxNodes - 1} {
			v, m := both(t, self, claims, uint64(i))
			checkAll(t, "P15.1: New", v, m)
			if v.Claims(self) != claims {
				t.Errorf("P15.2: Claims of self: %s, not %s", told(v.Claims(self)), told(claims))
			}
		}
	}
}

// Numbers that are no slot's and no node's, in a view with slots of nobody, and with slots of all.
func TestNumbersThatAreNone(t *testing.T) {
	few, _ := world(t)
	whole, _ := both(t, 63, all(), 7)
	for _, v := range []*View{few, whole} {
		for _, n := range edgeSlots {
			if owner := v.Owner(n); (n < 0 || n >= api.Slots) && owner != -1 {
				t.Errorf("P15.2: Owner(%d): %d", n, owner)
			}
		}
		for _, node := range edgeNodes {
			if node >= 0 && node < api.MaxNodes {
				continue
			}
			if v.Epoch(node) != 0 {
				t.Errorf("P15.2: Epoch(%d): %d", node, v.Epoch(node))
			}
			if b := v.Claims(node); b != (api.Bits{}) {
				t.Errorf("P15.2: Claims(%d): %s", node, told(b))
			}
		}
	}
	if whole.Owner(0) != 63 || whole.Owner(16383) != 63 || few.Owner(16383) != -1 || few.Owner(20) != -1 || few.Owner(19) != 5 {
		t.Error("P15.2: Owner at the edges")
	}
}

func TestTell(t *testing.T) {
	v, m := world(t)
	for _, kind := range []int{math.MinInt, -1, 0, api.Ping, api.Pong, api.Update, api.Meet, 5, 256, math.MaxInt} {
		want := api.Packet{Kind: kind, From: 2, Of: 0, Epoch: 5, Current: 20, Claims: span(0, 3)}
		if p := v.Tell(kind); p != want {
			t.Errorf("P15.2: Tell(%d): %s", kind, brief(p))
		}
	}
	checkAll(t, "P15.2: Tell changes nothing", v, m)
}

// The chapter's examples.
func TestExamples(t *testing.T) {
	v, _ := New(1, span(0, 9), 3)
	l := v.Take(api.Packet{Kind: api.Ping, From: 2, Epoch: 4, Current: 5, Claims: these(5)})
	checkPackets(t, "the first example", l, []api.Packet{{Kind: api.Pong, From: 1, Epoch: 3, Current: 5, Claims: these(0, 1, 2, 3, 4, 6, 7, 8, 9)}})
	if v.Owner(5) != 2 || v.Owner(6) != 1 || v.Current() != 5 {
		t.Errorf("the first example: Owner(5) %d, Owner(6) %d, Current %d", v.Owner(5), v.Owner(6), v.Current())
	}
	l = v.Take(api.Packet{Kind: api.Ping, From: 3, Epoch: 2, Current: 2, Claims: these(5)})
	checkPackets(t, "the second example", l, []api.Packet{
		{Kind: api.Pong, From: 1, Epoch: 3, Current: 5, Claims: these(0, 1, 2, 3, 4, 6, 7, 8, 9)},
		{Kind: api.Update, From: 1, Of: 2, Epoch: 4, Current: 5, Claims: these(5)},
	})
}

// Packets of which nothing is taken in: not their Current, not their claims, not a pong for them.
func TestWhatIsNotTaken(t *testing.T) {
	free := span(100, 200)
	for _, p := range []api.Packet{
		// Not Right.
		{Kind: 0, From: 1, Epoch: 30, Current: 30, Claims: free},
		{Kind: 5, From: 1, Epoch: 30, Current: 30, Claims: free},
		{Kind: -1, From: 1, Epoch: 30, Current: 30, Claims: free},
		{Kind: 257, From: 1, Epoch: 30, Current: 30, Claims: free},
		{Kind: math.MaxInt, From: 1, Epoch: 30, Current: 30, Claims: free},
		{Kind: api.Ping, From: -1, Epoch: 30, Current: 30, Claims: free},
		{Kind: api.Ping, From: 64, Epoch: 30, Current: 30, Claims: free},
		{Kind: api.Pong, From: 256 + 1, Epoch: 30, Current: 30, Claims: free},
		{Kind: api.Meet, From: math.MinInt, Epoch: 30, Current: 30, Claims: free},
		{Kind: api.Update, From: 64, Of: 1, Epoch: 30, Current: 30, Claims: free},
		{Kind: api.Update, From: -1, Of: 1, Epoch: 30, Current: 30, Claims: free},
		{Kind: api.Update, From: 1, Of: 64, Epoch: 30, Current: 30, Claims: free},
		{Kind: api.Update, From: 1, Of: -1, Epoch: 30, Current: 30, Claims: free},
		{Kind: api.Update, From: 1, Of: math.MaxInt, Epoch: 30, Current: 30, Claims: free},
		{Kind: api.Ping, From: 1, Of: 1, Epoch: 30, Current: 30, Claims: free},
		{Kind: api.Pong, From: 1, Of: 3, Epoch: 30, Current: 30, Claims: free},
		{Kind: api.Meet, From: 1, Of: -1, Epoch: 30, Current: 30, Claims: free},
		{Kind: api.Ping, From: 1, Epoch: 31, Current: 30, Claims: free},
		{Kind: api.Update, From: 1, Of: 3, Epoch: 31, Current: 30, Claims: free},
		// Current above 2^62.
		{Kind: api.Ping, From: 1, Epoch: 30, Current: top + 1, Claims: free},
		{Kind: api.Pong, From: 1, Epoch: top + 1, Current: top + 1, Claims: free},
		{Kind: api.Update, From: 1, Of: 3, Epoch: 30, Current: top + 1, Claims: free},
		{Kind: api.Meet, From: 1, Epoch: 30, Current: 1 << 63, Claims: free},
		{Kind: api.Meet, From: 1, Epoch: math.MaxUint64, Current: math.MaxUint64, Claims: free},
		// From the node itself.
		{Kind: api.Ping, From: 2, Epoch: 30, Current: 30, Claims: free},
		{Kind: api.Pong, From: 2, Epoch: 5, Current: 30},
		{Kind: api.Meet, From: 2, Epoch: 30, Current: 30, Claims: span(8, 11)},
		{Kind: api.Update, From: 2, Of: 1, Epoch: 30, Current: 30, Claims: free},
		{Kind: api.Update, From: 2, Of: 2, Epoch: 30, Current: 30, Claims: free},
		// An Update of the node itself.
		{Kind: api.Update, From: 1, Of: 2, Epoch: 30, Current: 30, Claims: free},
		{Kind: api.Update, From: 63, Of: 2, Epoch: 5, Current: 5},
	} {
		v, m := world(t)
		if l := v.Take(p); len(l) != 0 {
			t.Errorf("P15.3: Take(%s): %d answers", brief(p), len(l))
		}
		checkAll(t, "P15.3: nothing of "+brief(p), v, m)
	}
}

// Each number that may be wrong at its edges, against the model.
func TestTakeAtTheEdges(t *testing.T) {
	v, m := world(t)
	for _, kind := range []int{math.MinInt, -1, 0, 1, 2, 3, 4, 5, 257} {
		for _, from := range edgeNodes {
			for _, of := range []int{-1, 0, 1, 2, 5, 63, 64} {
				checkTake(t, v, m, api.Packet{Kind: kind, From: from, Of: of, Epoch: 1, Current: 1})
			}
		}
	}
	for _, kind := range []int{api.Ping, api.Pong, api.Update, api.Meet} {
		for _, epoch := range edgeEpochs {
			for _, current := range edgeEpochs {
				v, m := world(t)
				p := api.Packet{Kind: kind, From: 1, Epoch: epoch, Current: current, Claims: these(3, 9, 30)}
				if kind == api.Update {
					p.Of = 4
				}
				checkTake(t, v, m, p)
			}
		}
	}
}

// What may just be taken in: the greatest epoch.
func TestTheGreatestEpoch(t *testing.T) {
	v, _ := world(t)
	v.Take(api.Packet{Kind: api.Pong, From: 1, Epoch: top, Current: top, Claims: these(0)})
	if v.Current() != top || v.Epoch(1) != top || v.Owner(0) != 1 || v.Owner(4) != -1 {
		t.Errorf("P15.3: Current %d, Epoch(1) %d, Owner(0) %d", v.Current(), v.Epoch(1), v.Owner(0))
	}
	if e := v.Win(0, top); e != api.OK || v.Current() != top+1 || v.Epoch(2) != top+1 || v.Owner(0) != 2 {
		t.Errorf("P15.4: Win above the greatest: %d, %d", e, v.Current())
	}
	// What it tells now others do not take in.
	w, m := world(t)
	w.self, m.self = 1, 1
	checkPackets(t, "P15.3: a Current above 2^62", w.Take(v.Tell(api.Ping)), nil)
	checkAll(t, "P15.3: a Current above 2^62", w, m)
	// Two at the greatest epoch: the lower one goes above it.
	low, _ := both(t, 0, these(0), top)
	low.Take(api.Packet{Kind: api.Pong, From: 1, Epoch: top, Current: top})
	if low.Epoch(0) != top+1 || low.Current() != top+1 {
		t.Errorf("P15.3: Epoch %d, Current %d", low.Epoch(0), low.Current())
	}
}

// Current goes up by each packet that is taken in, and never down.
func TestCurrent(t *testing.T) {
	for kind := api.Ping; kind <= api.Meet; kind++ {
		v, _ := world(t)
		for _, c := range []struct{ told, want uint64 }{{19, 20}, {20, 20}, {21, 21}, {4, 21}, {1000, 1000}, {top, top}, {0, top}} {
			// Its epoch is below what is known of it: its Current counts still.
			p := tells(kind, 0, api.Bits{})
			p.Current = c.told
			v.Take(p)
			if v.Current() != c.want || v.Epoch(3) != 7 || v.Epoch(2) != 5 {
				t.Errorf("P15.3: Kind %d: Current %d behind %d, not %d; epochs %d, %d", kind, v.Current(), c.told, c.want, v.Epoch(3), v.Epoch(2))
			}
		}
	}
}

// tells is node 3's word (in world at epoch 7, with 8-11) by each Kind.
func tells(kind int, epoch uint64, claims api.Bits) api.Packet {
	p := api.Packet{Kind: kind, From: 3, Epoch: epoch, Current: max(epoch, 8), Claims: claims}
	if kind == api.Update {
		p.From, p.Of = 9, 3
	}
	return p
}

// Owners of a slot of each node, by hand: of node 2 itself at 5, 1 at 3, 3 at 7, 4 at 5, 5 at 9, and nobody.
func TestEpochBelowAtAndAbove(t *testing.T) {
	claims := these(0, 4, 8, 12, 16, 20) // 3 claims one slot of each; of its own 9-11 no more.
	cases := []struct {
		epoch  uint64
		known  uint64
		owners [7]int // of 0, 4, 8, 9, 12, 16, 20
	}{
		{0, 7, [7]int{2, 1, 3, 3, 4, 5, -1}},
		{6, 7, [7]int{2, 1, 3, 3, 4, 5, -1}},
		{7, 7, [7]int{3, 3, 3, -1, 3, 5, 3}},
		{8, 8, [7]int{3, 3, 3, -1, 3, 5, 3}},
		{9, 9, [7]int{3, 3, 3, -1, 3, 5, 3}},
		{10, 10, [7]int{3, 3, 3, -1, 3, 3, 3}},
		{30, 30, [7]int{3, 3, 3, -1, 3, 3, 3}},
	}
	for kind := api.Ping; kind <= api.Meet; kind++ {
		for _, c := range cases {
			v, m := world(t)
			p := tells(kind, c.epoch, claims)
			checkTake(t, v, m, p)
			for i, n := range []int{0, 4, 8, 9, 12, 16, 20} {
				if v.Owner(n) != c.owners[i] {
					t.Errorf("P15.3: %s: Owner(%d): %d, not %d", brief(p), n, v.Owner(n), c.owners[i])
				}
			}
			if v.Epoch(3) != c.known {
				t.Errorf("P15.3: %s: Epoch(3): %d, not %d", brief(p), v.Epoch(3), c.known)
			}
			// What it did not claim, and did not own, stays.
			for _, n := range []int{1, 5, 13, 17, 21} {
				if want := []int{2, 1, 3, 4, 5, -1}[n/4]; v.Owner(n) != want {
					t.Errorf("P15.3: %s: Owner(%d): %d, not %d", brief(p), n, v.Owner(n), want)
				}
			}
			checkAll(t, "P15.3: "+brief(p), v, m)
		}
	}
}

// One's epoch is held against another's at just one below, the same, and one above.
func TestClaimsOfAnothersSlot(t *testing.T) {
	for epoch := range uint64(12) {
		for owner, at := range map[int]uint64{1: 3, 2: 5, 4: 5, 5: 9} {
			for kind := api.Ping; kind <= api.Meet; kind++ {
				v, m := world(t)
				n := slices.Index(m.owner, owner)
				p := api.Packet{Kind: kind, From: 6, Epoch: epoch, Current: 12, Claims: these(n)}
				if kind == api.Update {
					p.Of, p.From = 6, 7
				}
				checkTake(t, v, m, p)
				want := owner
				if at < epoch {
					want = 6
				}
				if v.Owner(n) != want || v.Epoch(6) != epoch || v.Owner(n+1) != owner {
					t.Errorf("P15.6: a slot of %d claimed at %d: %d's", owner, epoch, v.Owner(n))
				}
			}
		}
	}
}

// What is claimed no more is nobody's, and nobody's others'; nothing claimed at all is as good as other slots.
func TestClaimedNoMore(t *testing.T) {
	for kind := api.Ping; kind <= api.Meet; kind++ {
		for _, claims := range []api.Bits{{}, these(8), these(9, 11), these(8, 9, 10, 11), these(16383), these(1, 16)} {
			v, m := world(t)
			checkTake(t, v, m, tells(kind, 7, claims))
			for n := 8; n < 12; n++ {
				want := -1
				if has(&claims, n) {
					want = 3
				}
				if v.Owner(n) != want {
					t.Errorf("P15.3: Kind %d, Claims %s: Owner(%d): %d", kind, told(claims), n, v.Owner(n))
				}
			}
			checkAll(t, "P15.3: claimed no more", v, m)
			// Then another one has it, at whatever epoch.
			checkTake(t, v, m, api.Packet{Kind: api.Pong, From: 7, Epoch: 0, Current: 0, Claims: span(8, 11)})
			checkAll(t, "P15.3: claimed by another one", v, m)
		}
	}
}

// An Update tells of Of alone, never of From.
func TestUpdateIsOfAnother(t *testing.T) {
	v, m := world(t)
	checkTake(t, v, m, api.Packet{Kind: api.Update, From: 1, Of: 3, Epoch: 8, Current: 8, Claims: these(8, 30)})
	if v.Epoch(1) != 3 || v.Owner(4) != 1 || v.Epoch(3) != 8 || v.Owner(30) != 3 || v.Owner(9) != -1 {
		t.Errorf("P15.3: an Update of 3 from 1: Epoch(1) %d, Epoch(3) %d", v.Epoch(1), v.Epoch(3))
	}
	// From may be Of.
	checkTake(t, v, m, api.Packet{Kind: api.Update, From: 3, Of: 3, Epoch: 9, Current: 9, Claims: these(31)})
	if v.Epoch(3) != 9 || v.Owner(31) != 3 || v.Owner(30) != -1 {
		t.Errorf("P15.3: an Update of 3 from 3: Epoch(3) %d", v.Epoch(3))
	}
	checkAll(t, "P15.3: Updates", v, m)
}

// A packet with the node's own epoch: from one below it and above it, by each Kind; the node itself at the least and the greatest number.
func TestOneEpochOfTwo(t *testing.T) {
	for _, self := range []int{0, 1, 31, 62, 63} {
		for from := range api.MaxNodes {
			if from == self {
				continue
			}
			for kind := api.Ping; kind <= api.Meet; kind++ {
				for _, epoch := range []uint64{4, 5, 6} {
					v, m := both(t, self, these(1), 5)
					p := api.Packet{Kind: kind, From: from, Epoch: epoch, Current: 11}
					if kind == api.Update {
						p.From, p.Of = (self+1)%api.MaxNodes, from
					}
					want, current := uint64(5), uint64(11)
					if kind != api.Update && epoch == 5 && self < from {
						want, current = 12, 12
					}
					l := v.Take(p)
					checkPackets(t, "P15.3: "+brief(p), l, m.take(p))
					if v.Epoch(self) != want || v.Current() != current || v.Epoch(from) != epoch {
						t.Fatalf("P15.3: %d takes %s: Epoch %d, Current %d, not %d, %d", self, brief(p), v.Epoch(self), v.Current(), want, current)
					}
					// The Pong tells of it as it is then.
					if (kind == api.Ping || kind == api.Meet) && (len(l) != 1 || l[0].Epoch != want || l[0].Current != current) {
						t.Fatalf("P15.3: %d takes %s: %d answers, %s", self, brief(p), len(l), brief(l[0]))
					}
				}
			}
		}
	}
}

// It is p.Epoch that counts at the third step, also where the node's is known to be above that by now.
func TestOneEpochOfAnEldersWord(t *testing.T) {
	v, m := world(t) // 3 has 7.
	checkTake(t, v, m, api.Packet{Kind: api.Pong, From: 3, Epoch: 5, Current: 5, Claims: span(8, 11)})
	if v.Epoch(2) != 21 || v.Current() != 21 || v.Epoch(3) != 7 {
		t.Errorf("P15.3: an elder word with the node's own epoch: Epoch(2) %d, Current %d", v.Epoch(2), v.Current())
	}
}

// What the second step gave away the third does not bring back; what it left is then claimed at a lesser epoch, and the fourth step tells so.
func TestTheStepsInOrder(t *testing.T) {
	v, m := both(t, 2, span(0, 3), 5)
	l := checkTake(t, v, m, api.Packet{Kind: api.Meet, From: 4, Epoch: 5, Current: 9, Claims: these(3, 7)})
	checkPackets(t, "P15.3: Meet at the node's own epoch", l, []api.Packet{
		{Kind: api.Pong, From: 2, Epoch: 10, Current: 10, Claims: span(0, 3)},
		{Kind: api.Update, From: 2, Of: 2, Epoch: 10, Current: 10, Claims: span(0, 3)},
	})
	if v.Owner(3) != 2 || v.Owner(7) != 4 {
		t.Errorf("P15.3: Owner(3) %d, Owner(7) %d", v.Owner(3), v.Owner(7))
	}
	// From a lower one: the epoch stays, and with that nobody's is above.
	v, m = both(t, 2, span(0, 3), 5)
	l = checkTake(t, v, m, api.Packet{Kind: api.Ping, From: 1, Epoch: 5, Current: 9, Claims: these(3, 7)})
	checkPackets(t, "P15.3: Ping at the node's own epoch", l, []api.Packet{{Kind: api.Pong, From: 2, Epoch: 5, Current: 9, Claims: span(0, 3)}})
}

// The answers to each Kind, of claims that are of others at epochs above, at, and below.
func TestAnswersByHand(t *testing.T) {
	own, five := span(0, 3), span(16, 19)
	pong := api.Packet{Kind: api.Pong, From: 2, Epoch: 5, Current: 20, Claims: own}
	of := func(node int, epoch uint64, claims api.Bits) api.Packet {
		return api.Packet{Kind: api.Update, From: 2, Of: node, Epoch: epoch, Current: 20, Claims: claims}
	}
	cases := []struct {
		what    string
		epoch   uint64 // of node 1, which is below 2, and in world at 3 with 4-7
		claims  api.Bits
		updates []api.Packet
	}{
		{"nothing claimed", 4, api.Bits{}, nil},
		{"its own", 3, span(4, 7), nil},
		{"its own, at an elder epoch", 2, span(4, 7), nil},
		{"nobody's", 4, span(40, 50), nil},
		{"nobody's, at an elder epoch", 2, span(40, 50), nil},
		{"the node's, at below its epoch", 4, these(0), []api.Packet{of(2, 5, own)}},
		{"the node's, at its epoch", 5, these(0), nil},
		{"5's at 9, at 8", 8, these(19), []api.Packet{of(5, 9, five)}},
		{"5's at 9, at 9", 9, these(19), nil},
		{"3's and 5's: of the first slot", 4, these(11, 16), []api.Packet{of(3, 7, span(8, 11))}},
		{"5's, and one that is nobody's ahead of it: with what it has", 8, these(16, 30), []api.Packet{of(5, 9, five)}},
		{"4's at 5 is not above, 3's at 7 is not; 5's is", 7, these(8, 12, 16), []api.Packet{of(5, 9, five)}},
		{"elder than known: all of others above it", 0, these(6, 12, 18), []api.Packet{of(4, 5, span(12, 15))}},
		{"all", 1, all(), []api.Packet{of(2, 5, own)}},
	}
	for _, c := range cases {
		for kind := api.Ping; kind <= api.Meet; kind++ {
			v, m := world(t)
			if c.epoch >= 7 { // Then 8-11 and the node's own may go to 1: just claims of 5's are told here.
				pong.Claims = slots(func(n int) bool { return n < 4 && !has(&c.claims, n) })
			} else {
				pong.Claims = own
			}
			p := api.Packet{Kind: kind, From: 1, Epoch: c.epoch, Current: 20, Claims: c.claims}
			if kind == api.Update {
				p.From, p.Of = 9, 1
			}
			var want []api.Packet
			if kind == api.Ping || kind == api.Meet {
				want = append(want, pong)
			}
			if kind != api.Update {
				want = append(want, c.updates...)
			}
			checkPackets(t, "P15.3: "+c.what+", Kind "+strconv.Itoa(kind), checkTake(t, v, m, p), want)
		}
	}
}

// The Update is of the owner of the lowest such slot, at both ends of the slots, and across the words of bits.
func TestFirstSuchSlot(t *testing.T) {
	for _, l := range [][]int{{0, 16383}, {63, 64}, {16382, 16383}, {100, 9000}, {1, 16000}} {
		v, m := both(t, 0, api.Bits{}, 1)
		for i, n := range l {
			v.Give(n, 10-i)
			m.give(n, 10-i)
		}
		for _, p := range []api.Packet{
			{Kind: api.Update, From: 1, Of: 10, Epoch: 5, Current: 9, Claims: these(l[0])},
			{Kind: api.Update, From: 1, Of: 9, Epoch: 6, Current: 9, Claims: these(l[1])},
		} {
			checkTake(t, v, m, p)
		}
		got := checkTake(t, v, m, api.Packet{Kind: api.Pong, From: 20, Epoch: 4, Current: 9, Claims: these(l...)})
		checkPackets(t, "P15.3: the first slot", got, []api.Packet{{Kind: api.Update, From: 0, Of: 10, Epoch: 5, Current: 9, Claims: these(l[0])}})
		got = checkTake(t, v, m, api.Packet{Kind: api.Pong, From: 20, Epoch: 5, Current: 9, Claims: these(l...)})
		checkPackets(t, "P15.3: the first slot above", got, []api.Packet{{Kind: api.Update, From: 0, Of: 9, Epoch: 6, Current: 9, Claims: these(l[1])}})
	}
}

// The same packet twice changes nothing the second time, but where the node's own epoch was the packet's again.
func TestTwice(t *testing.T) {
	for kind := api.Ping; kind <= api.Meet; kind++ {
		for epoch := range uint64(12) {
			v, m := world(t)
			p := tells(kind, epoch, these(0, 4, 8, 12, 16, 20))
			first := checkTake(t, v, m, p)
			state := m.clone()
			second := checkTake(t, v, m, p)
			checkAll(t, "P15.3: the second time", v, m)
			checkAll(t, "P15.3: nothing new", v, state)
			checkPackets(t, "P15.3: answered once more", second, first)
		}
	}
}

func TestWinAndGiveAtTheirBounds(t *testing.T) {
	for _, n := range edgeSlots {
		is := n >= 0 && n < api.Slots
		for _, least := range edgeEpochs {
			v, m := world(t)
			want := api.ErrArg
			if is && least <= top {
				want = api.OK
			}
			if e, model := v.Win(n, least), m.win(n, least); e != want || e != model {
				t.Fatalf("P15.4: Win(%d, %d): %d, not %d", n, least, e, want)
			}
			what := "P15.4: Win(" + strconv.Itoa(n) + ", " + strconv.FormatUint(least, 10) + ")"
			checkSome(t, what, v, m, upTo(api.Slots), []int{2, 5})
			if want == api.OK && (v.Owner(n) != 2 || v.Current() != 1+max(20, least) || v.Epoch(2) != v.Current()) {
				t.Fatalf("%s: Owner %d, Current %d, Epoch %d", what, v.Owner(n), v.Current(), v.Epoch(2))
			}
		}
		for _, node := range edgeNodes {
			v, m := world(t)
			want := api.OK
			switch {
			case !is: // Named first.
				want = api.ErrArg
			case node < 0 || node >= api.MaxNodes:
				want = api.ErrViewNode
			}
			if e, model := v.Give(n, node), m.give(n, node); e != want || e != model {
				t.Fatalf("P15.4: Give(%d, %d): %d, not %d", n, node, e, want)
			}
			checkSome(t, "P15.4: Give("+strconv.Itoa(n)+", "+strconv.Itoa(node)+")", v, m, upTo(api.Slots), []int{2, 5})
			if want == api.OK && (v.Owner(n) != node || v.Current() != 20 || v.Epoch(2) != 5) {
				t.Fatalf("P15.4: Give(%d, %d): Owner %d, Current %d", n, node, v.Owner(n), v.Current())
			}
		}
	}
}

// Win by each way: from Current, from least, at once again, of a slot of one's own, of nobody's, of another's.
func TestWinRises(t *testing.T) {
	v, _ := world(t)
	for _, c := range []struct {
		slot  int
		least uint64
		want  uint64
	}{{0, 0, 21}, {16, 0, 22}, {30, 21, 23}, {30, 23, 24}, {31, 24, 25}, {31, 26, 27}, {8, 100, 101}, {8, 0, 102}} {
		if e := v.Win(c.slot, c.least); e != api.OK || v.Owner(c.slot) != 2 || v.Epoch(2) != c.want || v.Current() != c.want {
			t.Errorf("P15.4: Win(%d, %d): %d, Epoch %d, Current %d, not %d", c.slot, c.least, e, v.Epoch(2), v.Current(), c.want)
		}
	}
	if v.Epoch(3) != 7 || v.Epoch(5) != 9 || v.Owner(9) != 3 || v.Claims(2) != these(0, 1, 2, 3, 8, 16, 30, 31) {
		t.Errorf("P15.4: Win changed others: Claims %s", told(v.Claims(2)))
	}
	// Give, to oneself too, at no epoch.
	if v.Give(9, 2) != api.OK || v.Owner(9) != 2 || v.Epoch(2) != 102 || v.Give(0, 50) != api.OK || v.Owner(0) != 50 || v.Epoch(50) != 0 || v.Current() != 102 {
		t.Errorf("P15.4: Give: Owner(9) %d, Owner(0) %d, Current %d", v.Owner(9), v.Owner(0), v.Current())
	}
}

// change does each call that changes something.
func change(v *View, m *plain) {
	v.Win(40, 50)
	m.win(40, 50)
	v.Give(0, 6)
	m.give(0, 6)
	for _, p := range []api.Packet{
		{Kind: api.Ping, From: 3, Epoch: 60, Current: 70, Claims: span(2, 5)},
		{Kind: api.Update, From: 3, Of: 8, Epoch: 61, Current: 61, Claims: these(16383, 17)},
	} {
		v.Take(p)
		m.take(p)
	}
}

// A clone and its view, each changed behind the other's back; a clone of a clone; a clone left behind.
func TestClone(t *testing.T) {
	v, m := world(t)
	c, cm := v.Clone(), m.clone()
	if c == v {
		t.Fatal("P15.4: Clone is the view itself")
	}
	checkAll(t, "P15.4: the clone", c, cm)
	change(v, m)
	checkAll(t, "P15.4: the clone, the view being changed", c, cm)
	checkAll(t, "P15.4: the view", v, m)
	d, dm := c.Clone(), cm.clone()
	change(c, cm)
	c.Win(1, 1000)
	cm.win(1, 1000)
	checkAll(t, "P15.4: the view, the clone being changed", v, m)
	checkAll(t, "P15.4: the clone", c, cm)
	checkAll(t, "P15.4: the clone's clone", d, dm)
	checkTake(t, d, dm, api.Packet{Kind: api.Meet, From: 1, Epoch: 12, Current: 12, Claims: span(0, 19)})
	checkTake(t, c, cm, api.Packet{Kind: api.Meet, From: 1, Epoch: 12, Current: 12, Claims: span(0, 19)})
	checkAll(t, "P15.4: at the end", v, m)
}

// What is told is the caller's own, what is handed in stays, and the same calls tell the same.
func TestNothingIsKept(t *testing.T) {
	claims := span(0, 3)
	v, e := New(2, claims, 5)
	m, _ := newPlain(2, claims, 5)
	if e != api.OK {
		t.Fatalf("P15.1: %d", e)
	}
	claims[0] = math.MaxUint64
	checkAll(t, "R6: New's claims", v, m)
	p := api.Packet{Kind: api.Ping, From: 4, Epoch: 5, Current: 9, Claims: these(3, 7)}
	was := p
	l := v.Take(p)
	m.take(p)
	if p != was {
		t.Errorf("R5: Take changed the packet to %s", brief(p))
	}
	p.Claims = all()
	for i := range l {
		l[i].Claims, l[i].Epoch = all(), 99
	}
	b := v.Claims(2)
	b[0] = 0
	q := v.Tell(api.Ping)
	q.Claims[0] = 0
	checkAll(t, "R6: what was told", v, m)
	checkPackets(t, "R7: Take again", v.Take(was), m.take(was))
	checkAll(t, "R7: Take again", v, m)
}

// seen is what of a view P15.5 and P15.6 speak of.
type seen struct {
	owners  []int
	epochs  []uint64
	current uint64
}

func look(v *View, many int) seen {
	s := seen{current: v.Current()}
	for n := range many {
		s.owners = append(s.owners, v.Owner(n))
	}
	for node := range api.MaxNodes {
		s.epochs = append(s.epochs, v.Epoch(node))
	}
	return s
}

// checkFollows holds what a call changed against P15.5, and, if it was Take of p, against P15.6.
func checkFollows(t *testing.T, what string, was, is seen, p *api.Packet) {
	t.Helper()
	if is.current < was.current {
		t.Fatalf("P15.5: %s: Current fell from %d to %d", what, was.current, is.current)
	}
	for node, epoch := range is.epochs {
		if epoch < was.epochs[node] || epoch > is.current {
			t.Fatalf("P15.5: %s: the epoch of %d from %d to %d, Current %d", what, node, was.epochs[node], epoch, is.current)
		}
	}
	if p == nil {
		return
	}
	for n, owner := range is.owners {
		ahead := was.owners[n]
		switch {
		case owner == ahead:
		case owner == -1:
			if teller := is.teller(*p); teller != ahead || has(&p.Claims, n) {
				t.Fatalf("P15.6: %s: the slot %d of %d is nobody's", what, n, ahead)
			}
		case owner != is.teller(*p) || !has(&p.Claims, n):
			t.Fatalf("P15.6: %s: the slot %d is %d's, who did not claim it", what, n, owner)
		case ahead != -1 && is.epochs[owner] <= was.epochs[ahead]:
			t.Fatalf("P15.6: %s: the slot %d went from %d to %d, of epochs %d and %d", what, n, ahead, owner, was.epochs[ahead], is.epochs[owner])
		}
	}
}

func (seen) teller(p api.Packet) int {
	if p.Kind == api.Update {
		return p.Of
	}
	return p.From
}

// somePacket is one of chance in a small world: few nodes, slots and epochs, so that they meet often; now and then a wrong one.
func somePacket(c *chance, nodes, many int, epochs uint64) api.Packet {
	p := api.Packet{Kind: 1 + c.below(4), From: c.below(nodes), Current: c.next() % epochs}
	p.Epoch = c.next() % (p.Current + 1)
	if p.Kind == api.Update {
		p.Of = c.below(nodes)
	}
	mask := c.next() & c.next()
	for n := range many {
		if mask>>(n%64)&1 == 1 {
			p.Claims[n/64] |= 1 << (n % 64)
		}
	}
	switch c.below(40) {
	case 0:
		p.Kind = c.below(7) - 1
	case 1:
		p.From = edgeNodes[c.below(len(edgeNodes))]
	case 2:
		p.Of = edgeNodes[c.below(len(edgeNodes))]
	case 3:
		p.Epoch = edgeEpochs[c.below(len(edgeEpochs))]
	case 4:
		p.Current = edgeEpochs[c.below(len(edgeEpochs))]
	}
	return p
}

// script does many calls of chance on a view and its model.
func script(t *testing.T, c *chance, self, nodes, many, steps int, epochs uint64) {
	t.Helper()
	v, m := both(t, self, slots(func(n int) bool { return n < many && c.below(3) == 0 }), c.next()%epochs)
	for i := range steps {
		was := look(v, many)
		switch k := c.below(20); {
		case k == 0:
			n, least := c.below(many), c.next()%(epochs+2)
			if c.below(5) == 0 {
				n, least = edgeSlots[c.below(len(edgeSlots))], edgeEpochs[c.below(len(edgeEpochs))]
			}
			if e, want := v.Win(n, least), m.win(n, least); e != want {
				t.Fatalf("P15.4: Win(%d, %d): %d, not %d", n, least, e, want)
			}
			checkFollows(t, "Win", was, look(v, many), nil)
		case k == 1:
			n, node := c.below(many), c.below(nodes)
			if c.below(5) == 0 {
				n, node = edgeSlots[c.below(len(edgeSlots))], edgeNodes[c.below(len(edgeNodes))]
			}
			if e, want := v.Give(n, node), m.give(n, node); e != want {
				t.Fatalf("P15.4: Give(%d, %d): %d, not %d", n, node, e, want)
			}
			checkFollows(t, "Give", was, look(v, many), nil)
		case k == 2:
			left, leftModel := v, m.clone()
			v = v.Clone()
			p := somePacket(c, nodes, many, epochs)
			checkTake(t, v, m, p)
			checkSome(t, "P15.4: what was cloned", left, leftModel, upTo(many), nil)
		default:
			p := somePacket(c, nodes, many, epochs)
			checkTake(t, v, m, p)
			checkFollows(t, brief(p), was, look(v, many), &p)
		}
		if c.below(4) == 0 && v.Tell(i) != m.tell(i) {
			t.Fatalf("P15.2: Tell(%d): %s, not %s", i, brief(v.Tell(i)), brief(m.tell(i)))
		}
	}
	checkAll(t, "P15.3: behind a script", v, m)
}

func TestScriptsOfChance(t *testing.T) {
	c := chance(15)
	for i := range 60 {
		nodes := 2 + c.below(5)
		script(t, &c, c.below(nodes), nodes, 6+c.below(10), 60, []uint64{3, 6, 12, 40}[i%4])
	}
	for range 8 {
		script(t, &c, c.below(api.MaxNodes), api.MaxNodes, 2000, 40, 500)
	}
}

// Views that tell one another all, in any order, some of it more than once, no slot being two nodes' and all epochs unlike: each slot stays whose it was.
func TestViewsAmongThemselves(t *testing.T) {
	c := chance(6)
	for range 12 {
		const nodes, share = 5, 7
		var views []*View
		for i := range nodes {
			// Epochs with unlike remainders by 5 are unlike.
			v, e := New(i, span(share*i, share*i+share-1), uint64(10+i*3+c.below(50)*nodes))
			if e != api.OK {
				t.Fatalf("P15.1: %d", e)
			}
			views = append(views, v)
		}
		type sent struct {
			to int
			p  api.Packet
		}
		var way []sent
		for i, v := range views {
			for to := range nodes {
				if to != i {
					way = append(way, sent{to, v.Tell(api.Ping)})
				}
			}
		}
		for len(way) > 0 {
			i := c.below(len(way))
			next := way[i]
			if c.below(6) > 0 {
				way = slices.Delete(way, i, i+1)
			}
			was := look(views[next.to], nodes*share)
			for _, p := range views[next.to].Take(next.p) {
				way = append(way, sent{next.p.From, p})
			}
			checkFollows(t, brief(next.p), was, look(views[next.to], nodes*share), &next.p)
		}
		for _, v := range views {
			for n := range nodes * share {
				if v.Owner(n) != n/share {
					t.Fatalf("P15.6: node %d sees the slot %d at %d", v.Self(), n, v.Owner(n))
				}
			}
		}
	}
}
