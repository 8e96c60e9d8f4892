package node

import (
	"math"
	"slices"
	"strconv"
	"strings"
	"testing"

	"marshalyard/api"
	"marshalyard/slot"
	"marshalyard/value"
)

// chance is a row of numbers that look like chance, the same at every run.
type chance uint64

func (c *chance) below(n int) int {
	*c = *c*6364136223846793005 + 1442695040888963407
	return int(uint64(*c) >> 33 % uint64(n))
}

func pick[T any](c *chance, l []T) T { return l[c.below(len(l))] }

const (
	fooSlot = 12182
	barSlot = 5061
	client  = 70 // who calls
	roomy   = 1 << 20
)

func slots(is func(s int) bool) api.Bits {
	var b api.Bits
	for s := range api.Slots {
		if is(s) {
			b[s/64] |= 1 << (s % 64)
		}
	}
	return b
}

func all() api.Bits { return slots(func(int) bool { return true }) }

func none() api.Bits { return api.Bits{} }

// both are a node and its model, new.
func both(t *testing.T, self int, claims api.Bits, epoch uint64, room int) (*Node, *plain) {
	t.Helper()
	n, e := New(self, claims, epoch, room)
	m, want := newPlain(self, claims, epoch, room)
	if e != want || e != api.OK || n == nil {
		t.Fatalf("P19.1: New(%d, .., %d, %d): %d, not %d", self, epoch, room, e, want)
	}
	return n, m
}

func call(args ...string) api.Letter { return api.Letter{Kind: api.LinkCall, Number: 7, Args: args} }

// checkCall does a call on both, and holds its answer, as told says it, against what is wanted: "-" for no answer.
func checkCall(t *testing.T, n *Node, m *plain, l api.Letter, want string) {
	t.Helper()
	checkAnswer(t, n, m, client, l, 0, want)
}

func checkAnswer(t *testing.T, n *Node, m *plain, from int, l api.Letter, now int, want string) {
	t.Helper()
	sent := checkTake(t, "P19.2", n, m, from, l, now)
	if told := answered(sent, from, l.Number); told != want {
		t.Fatalf("P19.2: %+q at %d is answered %s, not %s", l.Args, now, told, want)
	}
}

// answered tells the answer to a call, in short.
func answered(sent []Sent, to, number int) string {
	if len(sent) != 1 || sent[0].Letter.Kind != api.LinkAnswer {
		return "-"
	}
	if sent[0].To != to || sent[0].Letter.Number != number {
		return "to another one: " + written(sent)
	}
	r := sent[0].Letter.Reply
	switch r.Kind {
	case api.Whole:
		return strconv.Itoa(r.Int)
	case api.Nil:
		return "nil"
	case api.Fault:
		return "!" + r.Text
	case api.Many:
		var l []string
		for _, x := range r.List {
			l = append(l, answered([]Sent{{to, api.Letter{Kind: api.LinkAnswer, Number: number, Reply: x}}}, to, number))
		}
		return "[" + strings.Join(l, " ") + "]"
	}
	return r.Text
}

// moving is a node that owns all slots, has foo and {foo}x, and lets their slot go to the node 2; foo is held.
func moving(t *testing.T) (*Node, *plain) {
	t.Helper()
	n, m := both(t, 1, all(), 3, roomy)
	checkCall(t, n, m, call("SET", "foo", "5"), "OK")
	checkCall(t, n, m, call("SET", "{foo}x", "6"), "OK")
	checkCall(t, n, m, call("SETSLOT", "12182", "MIGRATING", "2", "7"), "OK")
	checkCall(t, n, m, call("MIGRATE", "12182", "foo", "2"), "-")
	return n, m
}

func doneOf(good bool, key string) api.Letter {
	return api.Letter{Kind: api.LinkDone, Slot: slot.Of(key), Key: key, Good: good}
}

func restoring(key, text string, ends int) api.Letter {
	return api.Letter{Kind: api.LinkRestore, Slot: slot.Of(key), Key: key, Text: text, Ends: ends}
}

// textDump is the dump of a text.
func textDump(s string) string {
	d, _ := value.Dump(api.Value{Kind: api.KindText, Text: s})
	return d
}

func TestNew(t *testing.T) {
	for _, self := range []int{math.MinInt, -1 << 32, -64, -1, 0, 1, 62, 63, 64, 65, 256, 1 << 32, math.MaxInt} {
		for _, epoch := range []uint64{0, 1, 1<<62 - 1, 1 << 62, 1<<62 + 1, math.MaxUint64} {
			n, e := New(self, slots(func(s int) bool { return s%3 == 0 }), epoch, 100)
			want := api.OK
			switch {
			case self < 0 || self > 63:
				want = api.ErrViewNode
			case epoch > 1<<62:
				want = api.ErrArg
			}
			if e != want || (n == nil) != (want != api.OK) {
				t.Fatalf("P19.1: New(%d, .., %d): %v, %d, not %d", self, epoch, n != nil, e, want)
			}
			if n == nil {
				continue
			}
			m, _ := newPlain(self, slots(func(s int) bool { return s%3 == 0 }), epoch, 100)
			checkAll(t, "P19.1: New", n, m)
			if n.Bus().View().Epoch(self) != epoch || n.Bus().View().Claims(self) != slots(func(s int) bool { return s%3 == 0 }) {
				t.Fatalf("P19.1: New(%d, .., %d) owns other slots, or at another epoch", self, epoch)
			}
		}
	}
}

func TestRoom(t *testing.T) {
	for _, x := range []struct {
		room int
		want string
	}{{math.MinInt, "!OOM"}, {-1, "!OOM"}, {0, "!OOM"}, {24, "!OOM"}, {25, "OK"}, {26, "OK"}, {math.MaxInt, "OK"}} {
		n, m := both(t, 1, all(), 3, x.room)
		checkCall(t, n, m, call("SET", "foo", "5"), x.want)
		checkAll(t, "P19.1: a room of "+strconv.Itoa(x.room), n, m)
	}
}

func TestBusIsItself(t *testing.T) {
	n, m := both(t, 1, none(), 3, roomy)
	b := n.Bus()
	if b != n.Bus() {
		t.Error("P19.1: Bus is another one each time")
	}
	checkCall(t, n, m, call("GET", "foo"), "!CLUSTERDOWN")
	b.Win(fooSlot, 8)
	m.bus.Win(fooSlot, 8)
	checkCall(t, n, m, call("GET", "foo"), "nil")
	b.Give(fooSlot, 5)
	m.bus.Give(fooSlot, 5)
	checkCall(t, n, m, call("GET", "foo"), "!MOVED 12182 5")
	gossip(t, n, m, api.Packet{Kind: api.Ping, From: 6, Epoch: 4, Current: 4, Claims: slots(func(s int) bool { return s == fooSlot })})
	checkCall(t, n, m, call("GET", "foo"), "!MOVED 12182 6")
	checkCall(t, n, m, call("SETSLOT", "12182", "IMPORTING", "6", "1"), "OK")
	checkCall(t, n, m, call("SETSLOT", "12182", "TAKE", "2"), "OK")
	if got := b.View().Owner(fooSlot); got != 1 {
		t.Error("P19.1: what the node does is not told by its bus: the owner is", got)
	}
	checkAll(t, "P19.1: its bus", n, m)
}

func TestExamples(t *testing.T) {
	n, m := both(t, 1, slots(func(s int) bool { return s == fooSlot }), 3, roomy)
	checkCall(t, n, m, call("SET", "foo", "5"), "OK")
	checkCall(t, n, m, call("SETSLOT", "12182", "MIGRATING", "2", "7"), "OK")
	sent := checkTake(t, "P19.2", n, m, client, call("MIGRATE", "12182", "foo", "2"), 0)
	want := []Sent{{To: 2, Letter: api.Letter{Kind: api.LinkRestore, Slot: 12182, Key: "foo", Text: textDump("5")}}}
	if written(sent) != written(want) {
		t.Errorf("P19.2: MIGRATE sends %s, not %s", written(sent), written(want))
	}
	checkAll(t, "P19.2: MIGRATE", n, m)
	eight := call("GET", "foo")
	eight.Number = 8
	checkCall(t, n, m, eight, "!TRYAGAIN")
	sent = checkTake(t, "P19.2", n, m, 2, doneOf(true, "foo"), 0)
	if told := answered(sent, client, 7); told != "OK" {
		t.Errorf("P19.2: the MIGRATE is answered %s, not OK", told)
	}
	nine := call("GET", "foo")
	nine.Number = 9
	checkCall(t, n, m, nine, "!ASK 12182 2 7")
	checkAll(t, "P19.2: the examples", n, m)
}

// TestFaultsOfSetslot: each Fault by hand, with two that apply told apart.
func TestFaultsOfSetslot(t *testing.T) {
	for _, x := range []struct {
		want, args string
	}{
		{"!ERR syntax", "SETSLOT"}, {"!ERR syntax", "SETSLOT x"}, {"!ERR syntax", "SETSLOT x y"}, {"!ERR syntax", "SETSLOT 5 STABLE 1"}, {"!ERR syntax", "SETSLOT 5 NODE"}, {"!ERR syntax", "SETSLOT 5 NODE 2 3"}, {"!ERR syntax", "SETSLOT 5 TAKE"}, {"!ERR syntax", "SETSLOT 5 TAKE 3 4"},
		{"!ERR syntax", "SETSLOT 5 IMPORTING 2"}, {"!ERR syntax", "SETSLOT 5 IMPORTING 2 7 7"}, {"!ERR syntax", "SETSLOT 5 MIGRATING"}, {"!ERR syntax", "SETSLOT 5 MIGRATING 2 7 7"}, {"!ERR syntax", "SETSLOT 5 STABL"}, {"!ERR syntax", "SETSLOT 5 STABLES"}, {"!ERR syntax", "SETSLOT STABLE 5"}, {"!ERR syntax", "SETSLOT x MIGRATING x"},
		{"!ERR no such slot", "SETSLOT x STABLE"}, {"!ERR no such slot", "SETSLOT -1 NODE 1"}, {"!ERR no such slot", "SETSLOT 16384 MIGRATING 64 0"}, {"!ERR no such slot", "SETSLOT 05 TAKE x"}, {"!ERR no such slot", "SETSLOT +5 STABLE"}, {"!ERR no such slot", "SETSLOT 99999999999999999999 STABLE"},
		{"!ERR no such node", "SETSLOT 5 IMPORTING 64 0"}, {"!ERR no such node", "SETSLOT 5 MIGRATING 1 x"}, {"!ERR no such node", "SETSLOT 12182 NODE -1"}, {"!ERR no such node", "SETSLOT 12182 NODE 1"}, {"!ERR no such node", "SETSLOT 12182 MIGRATING x 1"},
		{"!ERR not a number", "SETSLOT 12182 MIGRATING 2 0"}, {"!ERR not a number", "SETSLOT 5 IMPORTING 2 1099511627777"}, {"!ERR not a number", "SETSLOT 5 TAKE -1"}, {"!ERR not a number", "SETSLOT 12182 TAKE 4611686018427387905"}, {"!ERR not a number", "SETSLOT 5 IMPORTING 0 x"},
		{"!ERR busy", "SETSLOT 12182 IMPORTING 2 1"}, {"!ERR busy", "SETSLOT 12182 MIGRATING 2 1"}, {"!ERR busy", "SETSLOT 12182 NODE 2"}, {"!ERR busy", "SETSLOT 12182 TAKE 0"}, {"!ERR busy", "SETSLOT 12182 STABLE"},
		{"!ERR owner", "SETSLOT 5 IMPORTING 2 1"}, {"!ERR not empty", "SETSLOT 5061 NODE 2"}, {"!ERR not owner", "SETSLOT 6 MIGRATING 2 1"}, {"!ERR not importing", "SETSLOT 6 TAKE 0"},
		{"OK", "SETSLOT 6 IMPORTING 2 1"}, {"OK", "SETSLOT 5 MIGRATING 2 1"}, {"3", "SETSLOT 5 NODE 2"}, {"3", "SETSLOT 6 NODE 2"}, {"OK", "SETSLOT 5 TAKE 0"}, {"OK", "SETSLOT 5 STABLE"}, {"OK", "SETSLOT 6 STABLE"}, {"OK", "SETSLOT 5061 TAKE 4611686018427387904"},
	} {
		n, m := moving(t)
		checkCall(t, n, m, call("SET", "bar", "1"), "OK")
		n.Bus().Give(6, 9)
		m.bus.Give(6, 9)
		checkCall(t, n, m, call(strings.Fields(x.args)...), x.want)
		checkSlots(t, "P19.2: behind "+x.args, n, m, 5, 6, fooSlot, barSlot)
	}
}

// TestOrders: what an order does, by hand.
func TestOrders(t *testing.T) {
	n, m := both(t, 1, slots(func(s int) bool { return s < 8000 }), 3, roomy)
	check := func(args, want string, s, goes, comes, token, owner int) {
		t.Helper()
		checkCall(t, n, m, call(strings.Fields(args)...), want)
		if g, c, k := n.Moving(s); g != goes || c != comes || k != token || n.Bus().View().Owner(s) != owner {
			t.Fatalf("P19.2: behind %s: %d, %d, %d, of %d; not %d, %d, %d, of %d", args, g, c, k, n.Bus().View().Owner(s), goes, comes, token, owner)
		}
		checkAll(t, "P19.2: behind "+args, n, m)
	}
	check("SETSLOT 0 MIGRATING 0 1", "OK", 0, 0, -1, 1, 1)
	check("SETSLOT 0 MIGRATING 63 1099511627776", "OK", 0, 63, -1, 1<<40, 1)
	check("SETSLOT 0 STABLE", "OK", 0, -1, -1, 0, 1)
	check("SETSLOT 0 STABLE", "OK", 0, -1, -1, 0, 1)
	check("SETSLOT 16383 IMPORTING 0 5", "OK", 16383, -1, 0, 5, -1)
	check("SETSLOT 16383 IMPORTING 63 6", "OK", 16383, -1, 63, 6, -1)
	check("SETSLOT 16383 STABLE", "OK", 16383, -1, -1, 0, -1)
	check("SETSLOT 16383 TAKE 9", "!ERR not importing", 16383, -1, -1, 0, -1)
	check("SETSLOT 16383 IMPORTING 2 7", "OK", 16383, -1, 2, 7, -1)
	check("SETSLOT 16383 TAKE 9", "OK", 16383, -1, -1, 0, 1)
	if v := n.Bus().View(); v.Epoch(1) != 10 || v.Current() != 10 {
		t.Errorf("P19.2: TAKE 9 leads to the epoch %d, Current %d, not 10", v.Epoch(1), v.Current())
	}
	check("SETSLOT 16383 TAKE 99", "OK", 16383, -1, -1, 0, 1)
	check("SETSLOT 16383 MIGRATING 2 8", "OK", 16383, 2, -1, 8, 1)
	check("SETSLOT 16383 TAKE 99", "OK", 16383, -1, -1, 0, 1)
	if v := n.Bus().View(); v.Epoch(1) != 10 {
		t.Errorf("P19.2: TAKE of its own slot leads to the epoch %d, not 10", v.Epoch(1))
	}
	check("SETSLOT 16383 MIGRATING 2 8", "OK", 16383, 2, -1, 8, 1)
	check("SETSLOT 16383 NODE 4", "10", 16383, -1, -1, 0, 4)
	check("SETSLOT 16383 NODE 0", "10", 16383, -1, -1, 0, 0)
	check("SETSLOT 16383 IMPORTING 0 9", "OK", 16383, -1, 0, 9, 0)
	check("SETSLOT 16383 NODE 63", "10", 16383, -1, -1, 0, 63)
	check("SETSLOT 16383 IMPORTING 0 9", "OK", 16383, -1, 0, 9, 63)
	check("SETSLOT 16383 TAKE 4611686018427387904", "OK", 16383, -1, -1, 0, 1)
	check("SETSLOT 16383 NODE 63", "4611686018427387905", 16383, -1, -1, 0, 63)
}

// TestSlotThatGoesAndComes: neither way says that the other one ends, and the slot has one token.
func TestSlotThatGoesAndComes(t *testing.T) {
	n, m := moving(t)
	checkTake(t, "P19.2", n, m, 2, doneOf(true, "foo"), 0)
	n.Bus().Give(fooSlot, 5)
	m.bus.Give(fooSlot, 5)
	checkCall(t, n, m, call("SETSLOT", "12182", "IMPORTING", "3", "8"), "OK")
	if g, c, k := n.Moving(fooSlot); g != 2 || c != 3 || k != 8 {
		t.Errorf("P19.2: Moving: %d, %d, %d, not 2, 3, 8", g, c, k)
	}
	checkCall(t, n, m, call("MIGRATE", "12182", "{foo}x", "2"), "-")
	checkTake(t, "P19.2", n, m, 3, restoring("foo", textDump("1"), 0), 0)
	checkAll(t, "P19.2: a slot that goes and comes", n, m)
	n.Bus().Win(fooSlot, 0)
	m.bus.Win(fooSlot, 0)
	checkTake(t, "P19.2", n, m, 2, doneOf(false, "{foo}x"), 0)
	checkCall(t, n, m, call("SETSLOT", "12182", "MIGRATING", "4", "9"), "OK")
	if g, c, k := n.Moving(fooSlot); g != 4 || c != 3 || k != 9 {
		t.Errorf("P19.2: Moving: %d, %d, %d, not 4, 3, 9", g, c, k)
	}
	checkAll(t, "P19.2: a slot that comes and goes", n, m)
}

func TestFaultsOfMigrate(t *testing.T) {
	for _, x := range []struct {
		want, args string
	}{
		{"!ERR syntax", "MIGRATE"}, {"!ERR syntax", "MIGRATE 12182"}, {"!ERR syntax", "MIGRATE 12182 foo"}, {"!ERR syntax", "MIGRATE 12182 foo 2 3"}, {"!ERR syntax", "MIGRATE x foo"},
		{"!ERR no such slot", "MIGRATE x foo 2"}, {"!ERR no such slot", "MIGRATE -1 foo 64"}, {"!ERR no such slot", "MIGRATE 16384 foo 1"}, {"!ERR no such slot", "MIGRATE 012182 foo 2"}, {"!ERR no such slot", "MIGRATE 12183 foo 2"}, {"!ERR no such slot", "MIGRATE 12182 bar x"},
		{"!ERR no such node", "MIGRATE 12182 foo x"}, {"!ERR no such node", "MIGRATE 12182 foo -1"}, {"!ERR no such node", "MIGRATE 12182 foo 64"}, {"!ERR no such node", "MIGRATE 12182 foo 1"}, {"!ERR no such node", "MIGRATE 5061 bar 1"},
		{"!ERR not migrating", "MIGRATE 12182 foo 3"}, {"!ERR not migrating", "MIGRATE 12182 {foo}none 0"}, {"!ERR not migrating", "MIGRATE 5061 bar 2"},
		{"!TRYAGAIN", "MIGRATE 12182 foo 2"}, {"NOKEY", "MIGRATE 12182 {foo}none 2"}, {"-", "MIGRATE 12182 {foo}x 2"},
	} {
		n, m := moving(t)
		checkCall(t, n, m, call("SET", "bar", "1"), "OK")
		checkCall(t, n, m, call(strings.Fields(x.args)...), x.want)
		checkSlots(t, "P19.2: behind "+x.args, n, m, fooSlot, barSlot)
	}
}

// states are ways in which a slot and its keys may stand, of a node 1 that owns the slots from 8192 on: foo's, but not bar's.
func states() [][]api.Letter {
	letters := func(lines ...string) []api.Letter {
		var l []api.Letter
		for _, x := range lines {
			l = append(l, call(strings.Fields(x)...))
		}
		return l
	}
	comes := append(letters("SETSLOT 5061 IMPORTING 2 7"), api.Letter{Kind: api.LinkRestore, Slot: barSlot, Key: "bar", Text: textDump("1")})
	return [][]api.Letter{
		nil,
		letters("SET foo 1"),
		letters("SETSLOT 12182 MIGRATING 2 7", "SETSLOT 5061 IMPORTING 2 7"),
		letters("SET foo 1", "SET {foo}x 2", "SETSLOT 12182 MIGRATING 2 7"),
		letters("SET foo 1", "SET {foo}x 2", "SETSLOT 12182 MIGRATING 2 7", "MIGRATE 12182 foo 2"),
		comes,
		append(slices.Clone(comes), letters("SET foo 1", "SETSLOT 12182 MIGRATING 0 9", "MIGRATE 12182 foo 0")...),
	}
}

func inState(t *testing.T, state []api.Letter) (*Node, *plain) {
	t.Helper()
	n, m := both(t, 1, slots(func(s int) bool { return s >= 8192 }), 3, roomy)
	for _, l := range state {
		checkTake(t, "P19.2: to a state", n, m, 2, l, 0)
	}
	return n, m
}

// TestAllOrders: SETSLOT with all its words, and arguments at and around their bounds, in all these states.
func TestAllOrders(t *testing.T) {
	numbers := []string{"x", "", "-1", "0", "1", "2", "1099511627776", "1099511627777", "4611686018427387904", "4611686018427387905", "9223372036854775808", "01", "-0", "+1", " 1", "1 "}
	nodes := []string{"x", "", "-1", "0", "1", "2", "63", "64", "02", "18446744073709551618"}
	slots := []string{"x", "-1", "0", "5061", "12182", "16383", "16384", "012182"}
	seen := map[string]bool{}
	for at, state := range states() {
		n, m := inState(t, state)
		try := func(args ...string) {
			t.Helper()
			sent := checkTake(t, "P19.2: in the state "+strconv.Itoa(at), n, m, client, call(args...), 0)
			seen[answered(sent, client, 7)] = true
			checkSlots(t, "P19.2: in the state "+strconv.Itoa(at)+", behind "+strings.Join(args, " "), n, m, 0, barSlot, fooSlot, 16383)
			if !strings.HasPrefix(answered(sent, client, 7), "!") {
				n, m = inState(t, state)
			}
		}
		for _, s := range slots {
			try("SETSLOT", s, "STABLE")
			try("SETSLOT", s, "UNSTABLE")
			for _, to := range nodes {
				try("SETSLOT", s, "NODE", to)
				try("SETSLOT", s, "STABLE", to)
				try("SETSLOT", s, "MIGRATING", to)
				for _, token := range numbers {
					try("SETSLOT", s, "IMPORTING", to, token)
					try("SETSLOT", s, "MIGRATING", to, token)
					try("SETSLOT", s, "NODE", to, token)
				}
			}
			for _, epoch := range numbers {
				try("SETSLOT", s, "TAKE", epoch)
				try("SETSLOT", s, "IMPORTING", epoch)
			}
		}
	}
	for _, want := range []string{"!ERR syntax", "!ERR no such slot", "!ERR no such node", "!ERR not a number", "!ERR busy", "!ERR owner", "!ERR not owner", "!ERR not empty", "!ERR not importing", "OK", "3"} {
		if !seen[want] {
			t.Errorf("P19.2: nothing was answered %s", want)
		}
	}
}

// TestAllMigrates: MIGRATE likewise.
func TestAllMigrates(t *testing.T) {
	seen := map[string]bool{}
	for at, state := range states() {
		n, m := inState(t, state)
		for _, s := range []string{"x", "", "-1", "0", "5061", "12182", "12183", "16383", "16384", "012182"} {
			for _, key := range []string{"foo", "{foo}x", "{foo}none", "bar", "{bar}x", ""} {
				for _, to := range []string{"x", "", "-1", "0", "1", "2", "3", "63", "64", "02"} {
					args := []string{"MIGRATE", s, key, to}
					sent := checkTake(t, "P19.2: in the state "+strconv.Itoa(at), n, m, client, call(args...), 0)
					seen[answered(sent, client, 7)] = true
					checkSlots(t, "P19.2: in the state "+strconv.Itoa(at)+", behind "+strings.Join(args, " "), n, m, 0, barSlot, fooSlot)
					if len(sent) == 1 && sent[0].Letter.Kind == api.LinkRestore {
						n, m = inState(t, state)
					}
				}
			}
		}
	}
	for _, want := range []string{"!ERR no such slot", "!ERR no such node", "!ERR not migrating", "!TRYAGAIN", "NOKEY", "-"} {
		if !seen[want] {
			t.Errorf("P19.2: nothing was answered %s", want)
		}
	}
}

func TestGreatAndSmallLetters(t *testing.T) {
	n, m := both(t, 1, all(), 3, roomy)
	n.Bus().Give(6, 9)
	m.bus.Give(6, 9)
	for _, x := range []struct {
		want, args string
	}{
		{"OK", "set foo 5"}, {"OK", "sEtSlOt 12182 mIgRaTiNg 2 7"}, {"-", "mIGrate 12182 foo 2"}, {"!TRYAGAIN", "migRATE 12182 foo 2"}, {"!TRYAGAIN", "gEt foo"},
		{"OK", "setslot 6 importing 2 7"}, {"OK", "SETSLOT 6 Importing 3 7"}, {"OK", "setslot 6 take 0"}, {"OK", "setslot 6 Stable"}, {"9", "setslot 6 node 9"}, {"9", "setslot 6 NodE 9"},
		// Letters that are folded into those from a to z, and signs that a bit tells from letters, are others.
		{"!ERR unknown command", "\u017fetslot 6 stable"}, {"!ERR syntax", "setslot 6 \u017ftable"}, {"!ERR syntax", "setslot 6 ta\u212ae 0"}, {"!ERR unknown command", "m\u0131grate 12182 foo 2"}, {"!ERR syntax", "setslot 6 m\u0131grating 2 7"}, {"!ERR syntax", "setslot 6 M\u0130GRATING 2 7"},
		{"!ERR unknown command", "SETSLOT\x00 6 STABLE"}, {"!ERR unknown command", "\xd3ETSLOT 6 STABLE"}, {"!ERR syntax", "SETSLOT 6 \x13TABLE"}, {"!ERR unknown command", "SETSLOTS 6 STABLE"}, {"!ERR unknown command", "SETSLO 6 STABLE"},
	} {
		want := x.want
		if want == "9" {
			want = strconv.FormatUint(n.Bus().View().Epoch(1), 10)
		}
		checkCall(t, n, m, call(strings.Fields(x.args)...), want)
		checkSlots(t, "P19.2: behind "+x.args, n, m, 6, fooSlot)
	}
}

func TestArgumentsThatAreNone(t *testing.T) {
	n, m := moving(t)
	for _, args := range [][]string{nil, {}, {""}, {"", ""}, {"FOO"}, {"FOO", "foo"}, {"GET"}, {"GET", "foo", "bar"}, {"MSET", "foo", "1", "bar"}, make([]string, 40)} {
		checkTake(t, "P19.2", n, m, client, call(args...), 0)
	}
	checkCall(t, n, m, call(), "!ERR unknown command")
	checkCall(t, n, m, call("GET", "foo", "foo"), "!ERR wrong number of arguments")
	checkCall(t, n, m, call("MSET", "foo", "1", "bar"), "!ERR wrong number of arguments")
	checkAll(t, "P19.2: arguments that are none", n, m)
}

func TestCommandsWithoutKeys(t *testing.T) {
	n, m := moving(t)
	n.Bus().Give(fooSlot, 9)
	m.bus.Give(fooSlot, 9)
	checkCall(t, n, m, call("PING"), "PONG")
	checkCall(t, n, m, call("ECHO", "foo"), "foo")
	checkCall(t, n, m, call("KEYSLOT", "foo"), "12182")
	checkCall(t, n, m, call("COUNT", "12182"), "2")
	checkCall(t, n, m, call("KEYS", "12182", "9"), "[foo {foo}x]")
	checkCall(t, n, m, call("KEYS", "12182", "1"), "[foo]")
	checkCall(t, n, m, call("COUNT", "16384"), "!ERR no such slot")
	checkAll(t, "P19.2: commands without keys", n, m)
}

// TestWhereCommandsBelong: all that a node may answer to commands of one key and of several, by hand.
func TestWhereCommandsBelong(t *testing.T) {
	n, m := moving(t)
	asking := func(token int, args string) api.Letter {
		l := call(strings.Fields(args)...)
		l.Asking = token
		return l
	}
	for _, x := range []struct {
		want   string
		letter api.Letter
	}{
		{"!TRYAGAIN", call("GET", "foo")}, {"!TRYAGAIN", call("SET", "foo", "9")}, {"!TRYAGAIN", call("DEL", "foo")}, {"!TRYAGAIN", call("MGET", "{foo}x", "foo")}, {"!TRYAGAIN", call("MGET", "foo", "{foo}none")}, {"!TRYAGAIN", call("EXPIRE", "foo", "1")}, {"!TRYAGAIN", call("DUMP", "foo")}, {"!TRYAGAIN", asking(7, "GET foo")},
		{"6", call("GET", "{foo}x")}, {"[6 6]", call("MGET", "{foo}x", "{foo}x")}, {"!TRYAGAIN", call("MGET", "{foo}x", "{foo}none")}, {"!TRYAGAIN", call("MSET", "{foo}none", "1", "{foo}x", "1")}, {"!ASK 12182 2 7", call("GET", "{foo}none")}, {"!ASK 12182 2 7", call("SET", "{foo}none", "1")}, {"!ASK 12182 2 7", call("MGET", "{foo}none", "{foo}no")},
		{"!CROSSSLOT", call("MGET", "foo", "bar")}, {"!CROSSSLOT", call("MSET", "bar", "1", "{foo}x", "1")}, {"nil", call("GET", "bar")}, {"!WRONGTYPE", call("LLEN", "{foo}x")}, {"!WRONGTYPE", asking(-1, "llen {foo}x")},
	} {
		checkCall(t, n, m, x.letter, x.want)
	}
	checkAll(t, "P19.2: at the node from which a slot goes", n, m)
	checkTake(t, "P19.2", n, m, 2, doneOf(true, "foo"), 0)
	checkCall(t, n, m, call("GET", "foo"), "!ASK 12182 2 7")
	checkCall(t, n, m, call("SETSLOT", "12182", "STABLE"), "OK")
	checkCall(t, n, m, call("GET", "foo"), "nil")

	n, m = both(t, 2, none(), 4, roomy)
	checkCall(t, n, m, asking(7, "GET foo"), "!CLUSTERDOWN")
	n.Bus().Give(fooSlot, 1)
	m.bus.Give(fooSlot, 1)
	checkCall(t, n, m, asking(7, "GET foo"), "!MOVED 12182 1")
	checkCall(t, n, m, call("SETSLOT", "12182", "IMPORTING", "1", "7"), "OK")
	for _, x := range []struct {
		want   string
		letter api.Letter
	}{
		{"!MOVED 12182 1", asking(0, "GET foo")}, {"!MOVED 12182 1", asking(6, "GET foo")}, {"!MOVED 12182 1", asking(8, "GET foo")}, {"!MOVED 12182 1", asking(-7, "GET foo")}, {"nil", asking(7, "GET foo")}, {"OK", asking(7, "SET foo 8")}, {"8", asking(7, "get foo")},
		{"!TRYAGAIN", asking(7, "MGET foo {foo}x")}, {"!TRYAGAIN", asking(7, "MGET {foo}x {foo}y")}, {"[8 8]", asking(7, "MGET foo foo")}, {"!CROSSSLOT", asking(7, "MGET foo bar")}, {"!CLUSTERDOWN", asking(7, "GET bar")}, {"!WRONGTYPE", asking(7, "LLEN foo")},
	} {
		checkCall(t, n, m, x.letter, x.want)
	}
	checkAll(t, "P19.2: at the node to which a slot comes", n, m)
}

func TestRestore(t *testing.T) {
	good := textDump("9")
	long := strings.Repeat("k", api.MaxBulk+1)
	for _, x := range []struct {
		what   string
		from   int
		letter api.Letter
		good   bool
		keys   int
	}{
		{"one that is right", 2, restoring("bar", good, 0), true, 2},
		{"one of a longer name", 2, restoring("{bar}y", good, 0), true, 2},
		{"one that ends behind the clock", 2, restoring("bar", good, 11), true, 2},
		{"one that ends last of all", 2, restoring("bar", good, api.MaxTime), true, 2},
		{"one that ends at the clock", 2, restoring("bar", good, 10), true, 1},
		{"one that has ended", 2, restoring("bar", good, 1), true, 1},
		{"one that ends too late", 2, restoring("bar", good, api.MaxTime+1), false, 1},
		{"one that ends below 0", 2, restoring("bar", good, -1), false, 1},
		{"one that ends far below 0", 2, restoring("bar", good, math.MinInt), false, 1},
		{"one that ends far too late", 2, restoring("bar", good, math.MaxInt), false, 1},
		{"a text that is none", 2, restoring("bar", "", 0), false, 1},
		{"a text that is cut", 2, restoring("bar", good[:len(good)-1], 0), false, 1},
		{"a text of which a bit is turned", 2, restoring("bar", "\x02"+good[1:], 0), false, 1},
		{"a text that is none, of one that has ended", 2, restoring("bar", "x", 1), false, 1},
		{"from another node", 3, restoring("bar", good, 0), false, 1},
		{"from itself", 1, restoring("bar", good, 0), false, 1},
		{"from nobody", -1, restoring("bar", good, 0), false, 1},
		{"from a client", 66, restoring("bar", good, 0), false, 1},
		{"from another node, of one that has ended", 3, restoring("bar", good, 1), false, 1},
		{"of a slot that does not come", 2, restoring("foo", good, 0), false, 1},
		{"of a slot that goes to that node", 4, restoring("a", good, 0), false, 1},
		{"from nobody, of a slot that goes", -1, restoring("a", good, 0), false, 1},
		{"from nobody, of a slot that neither goes nor comes", -1, restoring("foo", good, 0), false, 1},
		{"of a key in another slot", 2, api.Letter{Kind: api.LinkRestore, Slot: barSlot, Key: "foo", Text: good}, false, 1},
		{"of another slot than its key's", 2, api.Letter{Kind: api.LinkRestore, Slot: fooSlot, Key: "bar", Text: good}, false, 1},
		{"of no slot", 2, api.Letter{Kind: api.LinkRestore, Slot: -1, Key: "bar", Text: good}, false, 1},
		{"of a slot above all", 2, api.Letter{Kind: api.LinkRestore, Slot: barSlot + api.Slots, Key: "bar", Text: good}, false, 1},
		{"of a key that is there", 2, restoring("{bar}x", good, 0), false, 1},
		{"of a key that is there, of one that has ended", 2, restoring("{bar}x", good, 1), false, 1},
		{"with a key that is too long", 2, restoring("{bar}"+long, good, 0), false, 1},
		{"with a key that is too long, of one that has ended", 2, restoring("{bar}"+long, good, 1), true, 1},
		{"of one that is too great", 2, restoring("bar", textDump(strings.Repeat("x", 400)), 0), false, 1},
		{"of one that is too great, and has ended", 2, restoring("bar", textDump(strings.Repeat("x", 400)), 10), true, 1},
	} {
		n, m := both(t, 1, slots(func(s int) bool { return s >= 8192 }), 3, 300)
		checkCall(t, n, m, call("SETSLOT", "5061", "IMPORTING", "2", "7"), "OK")
		checkCall(t, n, m, call("SETSLOT", strconv.Itoa(slot.Of("a")), "MIGRATING", "4", "7"), "OK")
		checkTake(t, "P19.2", n, m, 2, restoring("{bar}x", textDump("there"), 0), 5)
		x.letter.Number, x.letter.Args, x.letter.Good, x.letter.Asking = 5, []string{"a"}, true, 3
		sent := checkTake(t, "P19.2: "+x.what, n, m, x.from, x.letter, 10)
		want := []Sent{{To: x.from, Letter: api.Letter{Kind: api.LinkDone, Slot: x.letter.Slot, Key: x.letter.Key, Good: x.good}}}
		if written(sent) != written(want) || n.Space().Len() != x.keys {
			t.Errorf("P19.2: %s: %s, and %d keys; not %s, and %d", x.what, brief(written(sent)), n.Space().Len(), brief(written(want)), x.keys)
		}
		checkSlots(t, "P19.2: "+x.what, n, m, barSlot, fooSlot, slot.Of("a"))
	}
}

func TestRestoreOfAllKinds(t *testing.T) {
	n, m := both(t, 1, none(), 3, roomy)
	checkCall(t, n, m, call("SETSLOT", "5061", "IMPORTING", "2", "7"), "OK")
	for i, v := range []api.Value{
		{Kind: api.KindText}, {Kind: api.KindText, Text: strings.Repeat("\x00\xff", 2048)}, {Kind: api.KindHash, Pairs: []api.Pair{{Name: "a", Value: "1"}, {Name: "b"}}},
		{Kind: api.KindList, Items: []string{"b", "a", "b"}}, {Kind: api.KindSet, Items: []string{"", "a"}}, {Kind: api.KindPoint, Point: api.Point{Re: -api.MaxPart, Im: api.MaxPart}},
	} {
		text, _ := value.Dump(v)
		key := "{bar}" + strconv.Itoa(i)
		checkTake(t, "P19.2", n, m, 2, restoring(key, text, 50+i), 0)
		e, is := n.Space().Get(key)
		if !is || !value.Same(e.Value, v) || e.Ends != 50+i {
			t.Errorf("P19.2: restored was %v %+v, not %+v", is, e, v)
		}
	}
	checkAll(t, "P19.2: values of all kinds", n, m)
}

// TestRestoreIntoAFullSpace: the letter is refused, till there is room again.
func TestRestoreIntoAFullSpace(t *testing.T) {
	n, m := both(t, 1, none(), 3, 60)
	checkCall(t, n, m, call("SETSLOT", "5061", "IMPORTING", "2", "7"), "OK")
	for _, x := range []struct {
		letter api.Letter
		good   bool
	}{
		{restoring("bar", textDump("1234567890"), 0), true}, // 34 bytes
		{restoring("{bar}", textDump("1"), 0), false},       // 27 more
		{restoring("{bar}", textDump(""), 0), true},         // 26 more
		{restoring("{bar}x", textDump("x"), 1), false},
		{restoring("{bar}x", textDump("x"), 0), false},
	} {
		sent := checkTake(t, "P19.2: a full space", n, m, 2, x.letter, 0)
		if got := sent[0].Letter.Good; got != x.good {
			t.Errorf("P19.2: %+q into %d bytes: %v, not %v", x.letter.Key, n.Space().Memory(), got, x.good)
		}
	}
	checkAll(t, "P19.2: a full space", n, m)

	n, m = both(t, 1, none(), 3, math.MaxInt)
	checkCall(t, n, m, call("SETSLOT", "5061", "IMPORTING", "2", "7"), "OK")
	for i := range api.MaxKeys + 2 {
		sent := n.Take(2, restoring("{bar}"+strconv.Itoa(i), textDump(""), 0), 0)
		if len(sent) != 1 || sent[0].Letter.Good != (i < api.MaxKeys) {
			t.Fatalf("P19.2: the key number %d: %s", i, written(sent))
		}
	}
}

func TestDone(t *testing.T) {
	for _, x := range []struct {
		what   string
		from   int
		letter api.Letter
		want   string // what the MIGRATE is answered
		keys   int
	}{
		{"Good", 2, doneOf(true, "foo"), "OK", 1},
		{"not Good", 2, doneOf(false, "foo"), "!ERR migrate", 2},
		{"Good, of another slot", 2, api.Letter{Kind: api.LinkDone, Slot: 5, Key: "foo", Good: true}, "OK", 1},
		{"of a key that is not held", 2, doneOf(true, "{foo}x"), "-", 2},
		{"of a key that is not there", 2, doneOf(true, "bar"), "-", 2},
		{"of a key of no name", 2, doneOf(true, ""), "-", 2},
		{"from another node", 3, doneOf(true, "foo"), "-", 2},
		{"not Good, from another node", 0, doneOf(false, "foo"), "-", 2},
		{"from itself", 1, doneOf(true, "foo"), "-", 2},
		{"from the one that called", client, doneOf(true, "foo"), "-", 2},
		{"from nobody", -1, doneOf(true, "foo"), "-", 2},
	} {
		n, m := moving(t)
		x.letter.Number, x.letter.Text, x.letter.Ends = 99, "x", 4
		sent := checkTake(t, "P19.2: "+x.what, n, m, x.from, x.letter, 0)
		if told := answered(sent, client, 7); told != x.want || n.Space().Len() != x.keys {
			t.Errorf("P19.2: a LinkDone %s: %s, and %d keys; not %s, and %d", x.what, told, n.Space().Len(), x.want, x.keys)
		}
		checkSlots(t, "P19.2: a LinkDone "+x.what, n, m, fooSlot, barSlot)
		if sent := checkTake(t, "P19.2: twice", n, m, 2, doneOf(true, "foo"), 0); (len(sent) == 0) != (x.want != "-") {
			t.Errorf("P19.2: a LinkDone behind one %s: %s", x.what, written(sent))
		}
		checkSlots(t, "P19.2: two LinkDones", n, m, fooSlot, barSlot)
	}
}

// TestSeveralHeld: each is answered to its own caller, with its own Number, in whatever order they come.
func TestSeveralHeld(t *testing.T) {
	n, m := both(t, 1, all(), 3, roomy)
	checkCall(t, n, m, call("SETSLOT", "12182", "MIGRATING", "2", "7"), "OK")
	checkCall(t, n, m, call("SETSLOT", "5061", "MIGRATING", "3", "8"), "OK")
	key := func(i int) string {
		if i%2 == 0 {
			return "{foo}" + strconv.Itoa(i)
		}
		return "{bar}" + strconv.Itoa(i)
	}
	const many = 40
	for i := range many {
		n.space.Put(api.Entry{Key: key(i), Value: api.Value{Kind: api.KindText, Text: key(i)}})
		m.space.Put(api.Entry{Key: key(i), Value: api.Value{Kind: api.KindText, Text: key(i)}})
		l := call("MIGRATE", strconv.Itoa(slot.Of(key(i))), key(i), strconv.Itoa(2+i%2))
		l.Number = 1000 - i
		checkTake(t, "P19.2", n, m, 64+i%5, l, 0)
	}
	checkAll(t, "P19.1: many held", n, m)
	for i := range many {
		i = i * 17 % many
		sent := checkTake(t, "P19.2", n, m, 2+i%2, doneOf(i%3 != 0, key(i)), 0)
		want := "OK"
		if i%3 == 0 {
			want = "!ERR migrate"
		}
		if told := answered(sent, 64+i%5, 1000-i); told != want {
			t.Fatalf("P19.2: the MIGRATE of %+q is answered %s, not %s", key(i), told, want)
		}
		checkSlots(t, "P19.2: many held", n, m, fooSlot, barSlot)
	}
	if l := n.Held(); len(l) > 0 {
		t.Errorf("P19.1: Held: %+q", l)
	}
}

// TestHeldIsNotTouched: whatever command names a held key.
func TestHeldIsNotTouched(t *testing.T) {
	for _, args := range []string{
		"GET foo", "SET foo 1", "DEL foo", "DEL {foo}x foo", "EXISTS foo", "TYPE foo", "APPEND foo 1", "STRLEN foo", "INCRBY foo 1", "MGET {foo}x foo", "MSET foo 1", "HSET foo a 1", "HGET foo a", "HALL foo", "LPUSH foo 1", "RPOP foo", "LRANGE foo 0 -1", "LTRIM foo 0 0", "SADD foo 1", "SREM foo 1", "SUNION {foo}x foo", "SINTER foo", "PSET foo 1+1i", "PADD foo 1+1i", "EXPIRE foo 0", "EXPIRE foo 5", "TTL foo", "PERSIST foo", "DUMP foo", "RESTORE foo 0 x", "MIGRATE 12182 foo 2",
	} {
		n, m := moving(t)
		for _, token := range []int{0, 7, 8} {
			l := call(strings.Fields(args)...)
			l.Asking = token
			checkCall(t, n, m, l, "!TRYAGAIN")
		}
		n.Bus().Give(fooSlot, 9)
		m.bus.Give(fooSlot, 9)
		if !strings.HasPrefix(args, "MIGRATE") {
			checkCall(t, n, m, call(strings.Fields(args)...), "!MOVED 12182 9")
		}
		e, is := n.Space().Get("foo")
		if !is || e.Value.Text != "5" || e.Ends != 0 {
			t.Errorf("P19.3: behind %s the held key is %v, %+v", args, is, e)
		}
		checkSlots(t, "P19.3: behind "+args, n, m, fooSlot)
	}
}

// TestHeldKeysThatEnd: they are held on, till their LinkDone comes.
func TestHeldKeysThatEnd(t *testing.T) {
	for _, good := range []bool{true, false} {
		n, m := both(t, 1, all(), 3, roomy)
		checkCall(t, n, m, call("SET", "foo", "5"), "OK")
		checkCall(t, n, m, call("EXPIRE", "foo", "10"), "1")
		checkCall(t, n, m, call("SETSLOT", "12182", "MIGRATING", "2", "7"), "OK")
		sent := checkTake(t, "P19.2", n, m, client, call("MIGRATE", "12182", "foo", "2"), 9)
		if sent[0].Letter.Ends != 10 {
			t.Errorf("P19.2: the letter's Ends is %d, not 10", sent[0].Letter.Ends)
		}
		checkAnswer(t, n, m, client, call("COUNT", "12182"), 9, "1")
		checkAnswer(t, n, m, client, call("COUNT", "12182"), 10, "0")
		if l := n.Held(); len(l) != 1 || l[0] != "foo" {
			t.Errorf("P19.3: Held: %+q, not foo", l)
		}
		checkAnswer(t, n, m, client, call("GET", "foo"), 10, "!TRYAGAIN")
		checkAnswer(t, n, m, client, call("SET", "foo", "1"), 10, "!TRYAGAIN")
		checkAnswer(t, n, m, client, call("MIGRATE", "12182", "foo", "2"), 10, "!TRYAGAIN")
		checkAnswer(t, n, m, client, call("SETSLOT", "12182", "STABLE"), 10, "!ERR busy")
		checkAnswer(t, n, m, client, call("SETSLOT", "12182", "NODE", "2"), 10, "!ERR busy")
		checkSlots(t, "P19.3: a held key has ended", n, m, fooSlot)
		sent = checkTake(t, "P19.2", n, m, 2, doneOf(good, "foo"), 11)
		want := "OK"
		if !good {
			want = "!ERR migrate"
		}
		if told := answered(sent, client, 7); told != want {
			t.Errorf("P19.2: the MIGRATE of a key that ended is answered %s, not %s", told, want)
		}
		checkAnswer(t, n, m, client, call("GET", "foo"), 11, "!ASK 12182 2 7")
		checkAnswer(t, n, m, client, call("SETSLOT", "12182", "NODE", "2"), 11, "3")
		checkAll(t, "P19.2: behind a key that ended", n, m)
	}
}

// TestTicksFirst: letters of all kinds move the clock on, but never back, and not beyond MaxTime.
func TestTicksFirst(t *testing.T) {
	for kind := -1; kind <= 7; kind++ {
		n, m := both(t, 1, all(), 3, roomy)
		checkCall(t, n, m, call("SET", "foo", "5"), "OK")
		checkCall(t, n, m, call("EXPIRE", "foo", "10"), "1")
		for _, now := range []int{math.MinInt, -1, 0, 9, 3, 10, api.MaxTime - 1, 5, api.MaxTime, api.MaxTime + 1, math.MaxInt} {
			for _, args := range [][]string{nil, {"PING"}, {"SETSLOT"}, {"MIGRATE"}} {
				checkTake(t, "P19.2: a tick", n, m, client, api.Letter{Kind: kind, Number: 1, Args: args}, now)
			}
			checkSlots(t, "P19.2: a letter of the Kind "+strconv.Itoa(kind)+" at "+strconv.Itoa(now), n, m, fooSlot)
		}
		if s := n.Space(); s.Now() != api.MaxTime || s.Len() != 0 {
			t.Errorf("P19.2: behind all ticks it is %d, and there are %d keys", s.Now(), s.Len())
		}
	}
}

func TestOtherKinds(t *testing.T) {
	n, m := moving(t)
	for _, kind := range []int{math.MinInt, -1 << 32, -1, 0, api.LinkAnswer, 5, 6, 7, 257, 1<<32 + 1, math.MaxInt} {
		for _, from := range []int{-1, 0, 1, 2, client} {
			l := api.Letter{Kind: kind, Number: 7, Slot: fooSlot, Key: "foo", Text: textDump("1"), Args: []string{"SET", "bar", "1"}, Good: true}
			if sent := checkTake(t, "P19.2: other kinds", n, m, from, l, 0); len(sent) > 0 {
				t.Errorf("P19.2: a letter of the Kind %d sends %s", kind, written(sent))
			}
		}
		checkSlots(t, "P19.2: behind a letter of the Kind "+strconv.Itoa(kind), n, m, fooSlot, barSlot)
	}
	checkAll(t, "P19.2: other kinds", n, m)
}

// TestAnybodyMayCall: calls are answered to whoever they come from, with whatever Number they have.
func TestAnybodyMayCall(t *testing.T) {
	for _, from := range []int{math.MinInt, -1 << 32, -2, -1, 0, 1, 2, 63, 64, 65, 128, 1 << 32, math.MaxInt} {
		for _, number := range []int{math.MinInt, -1, 0, 1, math.MaxInt} {
			n, m := both(t, 1, all(), 3, roomy)
			for _, x := range []struct{ args, want string }{{"SET foo 5", "OK"}, {"get foo", "5"}, {"SETSLOT 12182 MIGRATING 2 7", "OK"}, {"SETSLOT 1", "!ERR syntax"}, {"MIGRATE 1", "!ERR syntax"}, {"MIGRATE 12182 {foo}x 2", "NOKEY"}, {"MIGRATE 12182 foo 2", "-"}} {
				l := call(strings.Fields(x.args)...)
				l.Number = number
				checkAnswer(t, n, m, from, l, 0, x.want)
			}
			sent := checkTake(t, "P19.2", n, m, 2, doneOf(true, "foo"), 0)
			if told := answered(sent, from, number); told != "OK" {
				t.Errorf("P19.2: the call %d of %d is answered %s", number, from, told)
			}
			checkTake(t, "P19.2", n, m, from, restoring("foo", textDump("1"), 0), 0)
			checkTake(t, "P19.2", n, m, from, doneOf(true, "foo"), 0)
			checkSlots(t, "P19.2: a call of "+strconv.Itoa(from), n, m, fooSlot)
		}
	}
}

// TestWhatIsToldIsTheCallersOwn: Space's clones go their own way, and nothing that is told is shared.
func TestWhatIsToldIsTheCallersOwn(t *testing.T) {
	n, m := moving(t)
	checkCall(t, n, m, call("RPUSH", "bar", "a", "b"), "2")
	s := n.Space()
	s.Put(api.Entry{Key: "new", Value: api.Value{Kind: api.KindText, Text: "x"}})
	s.Delete("foo")
	s.Delete("bar")
	s.Tick(99)
	checkAll(t, "R6: Space written into", n, m)
	for _, e := range n.Space().All() {
		for i := range e.Value.Items {
			e.Value.Items[i] = "spoilt"
		}
	}
	checkAll(t, "R6: what Space tells written into", n, m)
	kept := n.Space()
	checkCall(t, n, m, call("DEL", "bar"), "1")
	checkTake(t, "P19.2", n, m, 2, doneOf(true, "foo"), 4)
	if _, is := kept.Get("foo"); !is || kept.Len() != 3 || kept.Now() != 0 {
		t.Errorf("R6: what Space told goes on with the node: %s", writtenSpace(kept))
	}
	v := n.Bus().View()
	v.Give(fooSlot, 40)
	checkAll(t, "R6: a view written into", n, m)
}

// The keys, and letters with them, of scripts of chance. One slot is the first one, one the last.
func (c *chance) key() string {
	return pick(c, []string{"foo", "{foo}x", "{foo}y", "bar", "{bar}x", "{" + lastSlotTag + "}z", firstSlotTag, lastSlotTag})
}

const (
	firstSlotTag = ""
	lastSlotTag  = "39296"
)

func chanceSlots() []int {
	return []int{slot.Of("foo"), slot.Of("bar"), slot.Of(firstSlotTag), slot.Of(lastSlotTag)}
}

func TestChancesSlots(t *testing.T) {
	if l := chanceSlots(); !slices.Equal(l, []int{fooSlot, barSlot, 0, 16383}) {
		t.Errorf("the slots of the keys of chance are %v", l)
	}
}

func (c *chance) order() []string {
	s := strconv.Itoa(pick(c, chanceSlots()))
	if c.below(30) == 0 {
		s = pick(c, []string{"-1", "16384", "x"})
	}
	node := strconv.Itoa(c.below(4))
	if c.below(20) == 0 {
		node = pick(c, []string{"-1", "63", "64", "x"})
	}
	token := strconv.Itoa(1 + c.below(4))
	if c.below(20) == 0 {
		token = pick(c, []string{"-1", "0", "1099511627776", "1099511627777", "4611686018427387904", "4611686018427387905", "x"})
	}
	switch c.below(12) {
	case 0, 1, 2:
		return []string{"SETSLOT", s, "IMPORTING", node, token}
	case 3, 4, 5, 6:
		return []string{"setslot", s, "migrating", node, token}
	case 7:
		return []string{"SETSLOT", s, "NODE", node}
	case 8, 9:
		return []string{"SETSLOT", s, "TAKE", token}
	case 10:
		return []string{"SETSLOT", s, "STABLE"}
	}
	return []string{"SETSLOT", s, pick(c, []string{"STABLE", "NODE", "TAKE"}), node, token}[:2+c.below(4)]
}

func (c *chance) command() []string {
	k, other := c.key(), c.key()
	word := strconv.Itoa(c.below(20))
	return pick(c, [][]string{
		{"GET", k}, {"SET", k, word}, {"SET", k, word}, {"SET", k, word}, {"MSET", k, word, other, word}, {"MGET", k, other}, {"DEL", k}, {"EXISTS", k, other, k}, {"INCRBY", k, word}, {"APPEND", k, word}, {"RPUSH", k, word, "a"}, {"LPOP", k}, {"SADD", k, word}, {"SUNION", k, other},
		{"EXPIRE", k, word}, {"EXPIRE", k, word}, {"TTL", k}, {"PERSIST", k}, {"DUMP", k}, {"RESTORE", k, word, textDump(word)}, {"PSET", k, "1+2i"}, {"PMUL", k, "2-1i"}, {"COUNT", strconv.Itoa(slot.Of(k))}, {"KEYS", strconv.Itoa(slot.Of(k)), word}, {"PING"}, {"FOO"}, {"GET"}, {"HSET", k, "f", word}, {"HALL", k}, {},
	})
}

func (c *chance) letter() api.Letter {
	k := c.key()
	l := api.Letter{Kind: api.LinkCall, Number: c.below(1000), Slot: slot.Of(k), Key: k, Asking: c.below(5)}
	switch c.below(20) {
	case 0, 1, 2, 3:
		l.Args = c.order()
	case 4, 5, 6, 7:
		l.Args = []string{"MIGRATE", strconv.Itoa(slot.Of(k)), k, strconv.Itoa(c.below(4))}
	case 8, 9, 10, 11, 12, 13:
		l.Args = c.command()
	case 14, 15, 16:
		l.Kind, l.Text, l.Ends = api.LinkRestore, textDump(strconv.Itoa(c.below(100))), pick(c, []int{0, 0, 0, c.below(400), -1, api.MaxTime, api.MaxTime + 1})
		if c.below(10) == 0 {
			l.Text = l.Text[:c.below(len(l.Text))]
		}
		if c.below(10) == 0 {
			l.Slot = c.below(api.Slots+2) - 1
		}
	case 17, 18:
		l.Kind, l.Good = api.LinkDone, c.below(3) > 0
	default:
		l.Kind, l.Args = c.below(9)-2, c.command()
	}
	return l
}

// told is what somebody else tells the bus, or does with it.
func (c *chance) told(t *testing.T, n *Node, m *plain) {
	s := pick(c, chanceSlots())
	switch c.below(3) {
	case 0:
		n.Bus().Win(s, 0)
		m.bus.Win(s, 0)
	case 1:
		to := c.below(5)
		n.Bus().Give(s, to)
		m.bus.Give(s, to)
	default:
		other := c.below(4)
		epoch := uint64(c.below(60))
		gossip(t, n, m, api.Packet{Kind: 1 + c.below(2), From: other, Epoch: epoch, Current: epoch, Claims: slots(func(x int) bool { return x == s })})
	}
}

func TestScriptsOfChance(t *testing.T) {
	for script := range 120 {
		c := chance(script)
		half := c.below(2) * 8192
		claims := slots(func(s int) bool { return s >= half })
		n, m := both(t, 1, claims, uint64(c.below(9)), pick(&c, []int{100, 200, roomy}))
		now := 0
		what := "P19.2: the script " + strconv.Itoa(script)
		for range 250 {
			now += pick(&c, []int{0, 0, 0, 1, 3, -2})
			checkTake(t, what, n, m, pick(&c, []int{0, 2, 3, 2, 3, 0, client, -1, 1, 63, 64}), c.letter(), now)
			if c.below(25) == 0 {
				c.told(t, n, m)
			}
			checkSlots(t, what, n, m, chanceSlots()...)
		}
		checkAll(t, what, n, m)
	}
}
