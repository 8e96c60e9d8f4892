package node

import (
	"fmt"
	"slices"
	"strconv"
	"strings"
	"testing"

	"marshalyard/api"
	"marshalyard/bus"
	"marshalyard/exec"
	"marshalyard/keyspace"
	"marshalyard/packet"
	"marshalyard/route"
	"marshalyard/slot"
	"marshalyard/table"
	"marshalyard/value"
)

// The plain model: the chapter's sentences, word by word, in lists of all slots and of held keys, on the layers that the chapter names.

type plainHold struct {
	key                string
	to, caller, number int
}

type plain struct {
	self               int
	bus                *bus.Bus
	space              *keyspace.Space
	goes, comes, token [16384]int
	held               []plainHold
}

func newPlain(self int, claims api.Bits, epoch uint64, room int) (*plain, api.Errno) {
	b, e := bus.New(self, claims, epoch)
	if e != api.OK {
		return nil, e
	}
	m := &plain{self: self, bus: b, space: keyspace.New(room)}
	for s := range 16384 {
		m.goes[s], m.comes[s] = -1, -1
	}
	return m, api.OK
}

func (m *plain) heldKeys() []string {
	var l []string
	for _, h := range m.held {
		l = append(l, h.key)
	}
	slices.Sort(l)
	return l
}

func (m *plain) isHeld(key string) bool { return slices.Contains(m.heldKeys(), key) }

func (m *plain) there(key string) bool {
	_, is := m.space.Get(key)
	return is
}

func (m *plain) owner(s int) int { return m.bus.View().Owner(s) }

// take is Take: at first the tick, then by the Kind.
func (m *plain) take(from int, l api.Letter, now int) []Sent {
	m.space.Tick(now)
	if l.Kind == 1 {
		if len(l.Args) > 0 && sameWord(l.Args[0], "MIGRATE") {
			return m.migrate(from, l)
		}
		r := api.Reply{}
		if len(l.Args) > 0 && sameWord(l.Args[0], "SETSLOT") {
			r = m.setslot(l.Args)
		} else {
			r = m.other(l, now)
		}
		return plainAnswer(from, l.Number, r)
	}
	if l.Kind == 3 {
		return []Sent{{To: from, Letter: api.Letter{Kind: 4, Slot: l.Slot, Key: l.Key, Good: m.restores(from, l)}}}
	}
	if l.Kind == 4 {
		return m.doneWith(from, l)
	}
	return nil
}

func plainAnswer(to, number int, r api.Reply) []Sent {
	return []Sent{{To: to, Letter: api.Letter{Kind: 2, Number: number, Reply: r}}}
}

// faultCase tells when a Fault applies; first is that of the first case that does, or "".
type faultCase struct {
	applies func() bool
	text    string
}

func first(l ...faultCase) string {
	for _, c := range l {
		if c.applies() {
			return c.text
		}
	}
	return ""
}

func (m *plain) setslot(args []string) api.Reply {
	word := ""
	for _, w := range []string{"IMPORTING", "MIGRATING", "NODE", "TAKE", "STABLE"} {
		if len(args) > 2 && sameWord(args[2], w) {
			word = w
		}
	}
	many := map[string]int{"IMPORTING": 5, "MIGRATING": 5, "NODE": 4, "TAKE": 4, "STABLE": 3}
	moves := word == "IMPORTING" || word == "MIGRATING"
	s, n, last := 0, 0, 0
	owns := func() bool { return m.owner(s) == m.self }
	fault := first(
		faultCase{func() bool { return word == "" || len(args) != many[word] }, "ERR syntax"},
		faultCase{func() bool { return !numberIn(args[1], 0, 16383, &s) }, "ERR no such slot"},
		faultCase{func() bool { return (moves || word == "NODE") && (!numberIn(args[3], 0, 63, &n) || n == m.self) }, "ERR no such node"},
		faultCase{func() bool { return moves && !numberIn(args[4], 1, 1099511627776, &last) }, "ERR not a number"},
		faultCase{func() bool { return word == "TAKE" && !numberIn(args[3], 0, 4611686018427387904, &last) }, "ERR not a number"},
		faultCase{func() bool {
			return slices.ContainsFunc(m.held, func(h plainHold) bool { return slot.Of(h.key) == s })
		}, "ERR busy"},
		faultCase{func() bool { return word == "IMPORTING" && owns() }, "ERR owner"},
		faultCase{func() bool { return word == "MIGRATING" && !owns() }, "ERR not owner"},
		faultCase{func() bool { return word == "NODE" && owns() && m.space.Count(s) > 0 }, "ERR not empty"},
		faultCase{func() bool { return word == "TAKE" && !owns() && m.comes[s] == -1 }, "ERR not importing"},
	)
	if fault != "" {
		return api.Reply{Kind: 2, Text: fault}
	}
	if word == "IMPORTING" {
		m.comes[s], m.token[s] = n, last
		return api.Reply{Kind: 1, Text: "OK"}
	}
	if word == "MIGRATING" {
		m.goes[s], m.token[s] = n, last
		return api.Reply{Kind: 1, Text: "OK"}
	}
	if word == "TAKE" && !owns() {
		m.bus.Win(s, uint64(last))
	}
	m.goes[s], m.comes[s], m.token[s] = -1, -1, 0
	if word == "NODE" {
		m.bus.Give(s, n)
		epoch := m.bus.View().Epoch(m.self)
		if epoch > 9223372036854775807 {
			epoch = 9223372036854775807
		}
		return api.Reply{Kind: 3, Int: int(epoch)}
	}
	return api.Reply{Kind: 1, Text: "OK"}
}

func (m *plain) migrate(from int, l api.Letter) []Sent {
	s, n := 0, 0
	fault := first(
		faultCase{func() bool { return len(l.Args) != 4 }, "ERR syntax"},
		faultCase{func() bool { return !numberIn(l.Args[1], 0, 16383, &s) || slot.Of(l.Args[2]) != s }, "ERR no such slot"},
		faultCase{func() bool { return !numberIn(l.Args[3], 0, 63, &n) || n == m.self }, "ERR no such node"},
		faultCase{func() bool { return m.goes[s] != n }, "ERR not migrating"},
		faultCase{func() bool { return m.isHeld(l.Args[2]) }, "TRYAGAIN"},
	)
	if fault != "" {
		return plainAnswer(from, l.Number, api.Reply{Kind: 2, Text: fault})
	}
	e, there := m.space.Get(l.Args[2])
	if !there {
		return plainAnswer(from, l.Number, api.Reply{Kind: 1, Text: "NOKEY"})
	}
	m.held = append(m.held, plainHold{key: e.Key, to: n, caller: from, number: l.Number})
	text, _ := value.Dump(e.Value)
	return []Sent{{To: n, Letter: api.Letter{Kind: 3, Slot: s, Key: e.Key, Text: text, Ends: e.Ends}}}
}

func (m *plain) other(l api.Letter, now int) api.Reply {
	_, e := table.Check(l.Args)
	keys := table.Keys(l.Args)
	if e != api.OK || len(keys) == 0 {
		return exec.Do(m.space, l.Args, now)
	}
	s := slot.Of(keys[0])
	c := route.Case{Self: m.self, Owner: m.owner(s), Migrating: m.goes[s], Importing: m.comes[s], Token: m.token[s], Asking: l.Asking}
	for _, key := range keys {
		c.Slots, c.Here, c.Held = append(c.Slots, slot.Of(key)), append(c.Here, m.there(key)), append(c.Held, m.isHeld(key))
	}
	d := route.Decide(c)
	if d.Kind == 1 {
		return exec.Do(m.space, l.Args, now)
	}
	return api.Reply{Kind: 2, Text: route.Text(d)}
}

func (m *plain) restores(from int, l api.Letter) bool {
	v, e := value.Load(l.Text)
	if l.Slot < 0 || l.Slot > 16383 || l.Slot != slot.Of(l.Key) || m.comes[l.Slot] == -1 || m.comes[l.Slot] != from {
		return false
	}
	if e != api.OK || l.Ends < 0 || l.Ends > 1099511627776 || m.there(l.Key) {
		return false
	}
	if l.Ends > 0 && l.Ends <= m.space.Now() {
		return true
	}
	return m.space.Put(api.Entry{Key: l.Key, Value: v, Ends: l.Ends}) == api.OK
}

func (m *plain) doneWith(from int, l api.Letter) []Sent {
	at := slices.IndexFunc(m.held, func(h plainHold) bool { return h.key == l.Key && h.to == from })
	if at < 0 {
		return nil
	}
	h := m.held[at]
	m.held = slices.Delete(m.held, at, at+1)
	if !l.Good {
		return plainAnswer(h.caller, h.number, api.Reply{Kind: 2, Text: "ERR migrate"})
	}
	m.space.Delete(l.Key)
	return plainAnswer(h.caller, h.number, api.Reply{Kind: 1, Text: "OK"})
}

func sameWord(s, great string) bool {
	if len(s) != len(great) {
		return false
	}
	for i := range len(s) {
		if s[i] != great[i] && s[i] != great[i]+'a'-'A' {
			return false
		}
	}
	return true
}

// numberIn puts into n the number that s is, if that is from least to most.
func numberIn(s string, least, most int, n *int) bool {
	x, err := strconv.ParseInt(s, 10, 64)
	if err != nil || strconv.FormatInt(x, 10) != s || int(x) < least || int(x) > most {
		return false
	}
	*n = int(x)
	return true
}

// written is all that is sent, unlike letters unlike; an empty list is as good as none.
func written(l []Sent) string {
	var out []string
	for _, x := range l {
		y := x.Letter
		out = append(out, fmt.Sprintf("to %d: %d %d %d %d %+q %+q %+q %s %t %d", x.To, y.Kind, y.Number, y.Slot, y.Ends, y.Key, y.Text, y.Args, writtenReply(y.Reply), y.Good, y.Asking))
	}
	return strings.Join(out, "; ")
}

func writtenReply(r api.Reply) string {
	var l []string
	for _, x := range r.List {
		l = append(l, writtenReply(x))
	}
	return fmt.Sprintf("{%d %d %+q %s}", r.Kind, r.Int, r.Text, l)
}

func writtenSpace(s *keyspace.Space) string {
	var l []string
	for _, e := range s.All() {
		dump, _ := value.Dump(e.Value)
		l = append(l, fmt.Sprintf("%+q %+q %d", e.Key, dump, e.Ends))
	}
	return fmt.Sprintf("at %d, %d keys, %d bytes: %s", s.Now(), s.Len(), s.Memory(), l)
}

// checkTake does Take on both, and holds what is sent against the model's. What was handed in, and what was told, is spoilt then.
func checkTake(t *testing.T, what string, n *Node, m *plain, from int, l api.Letter, now int) []Sent {
	t.Helper()
	want := m.take(from, l, now)
	mine := l
	mine.Args = slices.Clone(l.Args)
	got := n.Take(from, mine, now)
	if written(got) != written(want) {
		t.Fatalf("%s: Take of %d, %s, at %d: sent %s; not %s", what, from, written([]Sent{{Letter: l}}), now, brief(written(got)), brief(written(want)))
	}
	if !slices.Equal(mine.Args, l.Args) {
		t.Fatalf("R5: Take wrote into its arguments: %+q, not %+q", mine.Args, l.Args)
	}
	for i := range mine.Args {
		mine.Args[i] = "spoilt"
	}
	for i := range got {
		spoil(got[i].Letter.Reply.List)
		got[i] = Sent{To: -7}
	}
	return want
}

func spoil(l []api.Reply) {
	l = l[:cap(l)]
	for i := range l {
		spoil(l[i].List)
		l[i] = api.Reply{Kind: -1, Text: "spoilt"}
	}
}

// checkSlots holds the moves and owners of some slots against the model's, and held keys, the space, and what the bus knows beside owners.
func checkSlots(t *testing.T, what string, n *Node, m *plain, slots ...int) {
	t.Helper()
	view, want := n.Bus().View(), m.bus.View()
	for _, s := range slots {
		g, c, k := n.Moving(s)
		if g != m.goes[s] || c != m.comes[s] || k != m.token[s] {
			t.Fatalf("%s: Moving(%d): %d, %d, %d, not %d, %d, %d", what, s, g, c, k, m.goes[s], m.comes[s], m.token[s])
		}
		if view.Owner(s) != want.Owner(s) {
			t.Fatalf("%s: Owner(%d): %d, not %d", what, s, view.Owner(s), want.Owner(s))
		}
	}
	for i := range 64 {
		if view.Epoch(i) != want.Epoch(i) {
			t.Fatalf("%s: Epoch(%d): %d, not %d", what, i, view.Epoch(i), want.Epoch(i))
		}
	}
	if view.Self() != m.self || view.Current() != want.Current() {
		t.Fatalf("%s: Self %d, Current %d, not %d, %d", what, view.Self(), view.Current(), m.self, want.Current())
	}
	held := n.Held()
	if !slices.Equal(held, m.heldKeys()) {
		t.Fatalf("%s: Held: %+q, not %+q", what, held, m.heldKeys())
	}
	held = held[:cap(held)]
	for i := range held {
		held[i] = "spoilt"
	}
	if got, want := writtenSpace(n.Space()), writtenSpace(m.space); got != want {
		t.Fatalf("%s: the space: %s; not %s", what, brief(got), brief(want))
	}
	if got, want := n.Bus().Outs(), m.bus.Outs(); !slices.Equal(got, want) {
		t.Fatalf("%s: the bus: %d went out, not %d, or others", what, len(got), len(want))
	}
}

// checkAll is checkSlots of all slots; of those that there are not nothing may move.
func checkAll(t *testing.T, what string, n *Node, m *plain) {
	t.Helper()
	all := make([]int, 16384)
	for s := range all {
		all[s] = s
	}
	checkSlots(t, what, n, m, all...)
	for _, s := range []int{-1 << 63, -16384, -1, 16384, 16385, 1 << 32, 1<<63 - 1} {
		if g, c, k := n.Moving(s); g != -1 || c != -1 || k != 0 {
			t.Fatalf("%s: Moving(%d): %d, %d, %d, not -1, -1, 0", what, s, g, c, k)
		}
	}
}

// gossip is what another node tells both.
func gossip(t *testing.T, n *Node, m *plain, p api.Packet) {
	t.Helper()
	s, e := packet.Encode(p)
	if e != api.OK || n.Bus().Take(s) != m.bus.Take(s) {
		t.Fatalf("P19.1: the bus takes %v: %d", p.Kind, e)
	}
}

func brief(s string) string {
	if len(s) > 600 {
		return s[:600] + ".."
	}
	return s
}
