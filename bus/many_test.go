package bus

import (
	"slices"
	"testing"

	"marshalyard/api"
	"marshalyard/view"
)

// somePacket is one of chance in a small world: few nodes, slots and epochs, so that they meet often; now and then a wrong one.
func somePacket(c *chance, nodes, many int, epochs uint64) api.Packet {
	p := api.Packet{Kind: 1 + c.below(4), From: c.below(nodes), Current: c.next() % epochs}
	p.Epoch = c.next() % (p.Current + 1)
	if p.Kind == api.Update {
		p.Of = c.below(nodes)
	}
	mask := c.next() & c.next()
	for n := range many {
		if mask>>(n%64)&1 == 1 {
			p.Claims[n/64] |= 1 << (n % 64)
		}
	}
	switch c.below(40) {
	case 0:
		p.Kind = c.below(7)
	case 1:
		p.From = c.below(70)
	case 2:
		p.Of = c.below(70)
	case 3:
		p.Epoch = edgeEpochs[c.below(len(edgeEpochs))]
	case 4:
		p.Current = edgeEpochs[c.below(len(edgeEpochs))]
	}
	return p
}

// spoil cuts s, lays bytes behind it, or turns bits of one byte: so that it is surely no packet's.
func spoil(c *chance, s string) string {
	switch c.below(4) {
	case 0:
		return s[:c.below(len(s))]
	case 1:
		return s + string(make([]byte, 1+c.below(3)))
	}
	b := []byte(s)
	b[c.below(len(b))] ^= byte(1 + c.below(255))
	return string(b)
}

// someBytes are a packet's of chance, what was heard or sent ahead, or no packet's.
func someBytes(c *chance, m *plain, heard []string, nodes, many int, epochs uint64) string {
	k := c.below(12)
	switch {
	case k == 0 && len(heard) > 0:
		return heard[c.below(len(heard))]
	case k == 1 && len(m.outs) > 0:
		return m.outs[c.below(len(m.outs))].Bytes
	}
	s := written(somePacket(c, nodes, many, epochs))
	if k == 2 {
		return spoil(c, s)
	}
	return s
}

func epochsOf(v *view.View) []uint64 {
	l := []uint64{v.Current()}
	for node := range api.MaxNodes {
		l = append(l, v.Epoch(node))
	}
	return l
}

// checkNoneFell tells that no epoch fell, nor Current.
func checkNoneFell(t *testing.T, what string, was, is []uint64) {
	t.Helper()
	for i := range was {
		if is[i] < was[i] {
			t.Fatalf("P16.4: %s: the epoch of %d (-1: Current) fell from %d to %d", what, i-1, was[i], is[i])
		}
	}
}

// script does many calls of chance on a bus and its model.
func script(t *testing.T, c *chance, self, nodes, many, steps int, epochs uint64) {
	t.Helper()
	b, m := both(t, self, slots(func(n int) bool { return n < many && c.below(3) == 0 }), c.next()%epochs)
	var heard []string
	for range steps {
		was := epochsOf(b.View())
		switch k := c.below(24); {
		case k < 3:
			to := c.below(nodes)
			if c.below(4) == 0 {
				to = edgeNodes[c.below(len(edgeNodes))]
			}
			want := api.OK
			if to < 0 || to >= api.MaxNodes || to == self {
				want = api.ErrViewNode
			}
			checkTells(t, b, m, []int{api.Ping, api.Meet}[k%2], to, want)
		case k < 5:
			checkOuts(t, "P16.3: in a script", b.Outs(), m.told())
		case k == 5:
			n, least := c.below(many), c.next()%(epochs+2)
			if c.below(5) == 0 {
				n, least = edgeSlots[c.below(len(edgeSlots))], edgeEpochs[c.below(len(edgeEpochs))]
			}
			if e, want := b.Win(n, least), m.win(n, least); e != want {
				t.Fatalf("P16.1: Win(%d, %d): %d, not %d", n, least, e, want)
			}
		case k == 6:
			n, node := c.below(many), c.below(nodes)
			if c.below(5) == 0 {
				n, node = edgeSlots[c.below(len(edgeSlots))], edgeNodes[c.below(len(edgeNodes))]
			}
			if e, want := b.Give(n, node), m.give(n, node); e != want {
				t.Fatalf("P16.1: Give(%d, %d): %d, not %d", n, node, e, want)
			}
		case k == 7:
			v := b.View()
			v.Win(c.below(many), 99)
			v.Give(c.below(many), c.below(nodes))
			v.Take(somePacket(c, nodes, many, epochs))
		default:
			s := someBytes(c, m, heard, nodes, many, epochs)
			heard = append(heard, s)
			if got, want := b.Take(s), m.take(s); got != want {
				t.Fatalf("P16.2: Take: %v: %s", got, brief(Out{-1, s}))
			}
		}
		checkNoneFell(t, "in a script", was, epochsOf(b.View()))
		checkSees(t, "P16.1: in a script", b.View(), m)
	}
	checkBoth(t, "P16.3: behind a script", b, m)
}

func TestScriptsOfChance(t *testing.T) {
	c := chance(16)
	for i := range 60 {
		nodes := 2 + c.below(5)
		script(t, &c, c.below(nodes), nodes, 6+c.below(10), 80, []uint64{3, 6, 12, 40}[i%4])
	}
	for range 6 {
		script(t, &c, c.below(api.MaxNodes), api.MaxNodes, 2000, 40, 500)
	}
}

// way is a pair of nodes that tell one another something.
type way struct{ from, to int }

// letter is a packet under way.
type letter struct {
	way
	bytes string
}

// yard are buses and what is under way between them; the slots whose owner is -1 are claimed by nobody.
type yard struct {
	t       *testing.T
	c       *chance
	nodes   []int
	buses   map[int]*Bus
	owner   []int
	claims  map[int]api.Bits
	letters []letter
	toPing  []way
	heard   map[way]bool // by a Ping or a Pong
}

// newYard has buses of those nodes, whose epochs are unlike, and of which none has another one's slot.
func newYard(t *testing.T, c *chance, nodes []int, epochs []uint64, whose func(n int) int) *yard {
	t.Helper()
	y := &yard{t: t, c: c, nodes: nodes, buses: map[int]*Bus{}, claims: map[int]api.Bits{}, heard: map[way]bool{}}
	for n := range api.Slots {
		y.owner = append(y.owner, whose(n))
	}
	for i, node := range nodes {
		claims := slots(func(n int) bool { return y.owner[n] == node })
		b, e := New(node, claims, epochs[i])
		if e != api.OK || b == nil {
			t.Fatalf("P16.1: New(%d, .., %d): %d", node, epochs[i], e)
		}
		y.buses[node], y.claims[node] = b, claims
		for _, to := range nodes {
			if to != node {
				y.toPing = append(y.toPing, way{node, to})
			}
		}
	}
	return y
}

// collect lays what a node's bus has sent since it was last asked, a step ago, under way.
func (y *yard) collect(node int) {
	y.t.Helper()
	l := y.buses[node].Outs()
	if len(l) > 2 { // A Meet and a Ping, or what a Ping is answered.
		y.t.Fatalf("P16.3: node %d sends %d packets by one step", node, len(l))
	}
	for _, o := range l {
		if y.buses[o.To] == nil || o.To == node {
			y.t.Fatalf("P16.3: node %d sends %s", node, brief(o))
		}
		y.letters = append(y.letters, letter{way{node, o.To}, o.Bytes})
	}
}

// tell lets the next node that has not yet done so ping another one; now and then it greets it by a Meet too, of which P16.5 does not speak.
func (y *yard) tell() {
	y.t.Helper()
	i := y.c.below(len(y.toPing))
	w := y.toPing[i]
	y.toPing = slices.Delete(y.toPing, i, i+1)
	if y.c.below(9) == 0 && y.buses[w.from].Meet(w.to) != api.OK {
		y.t.Fatalf("P16.2: Meet(%d) of %d", w.to, w.from)
	}
	if y.buses[w.from].Ping(w.to) != api.OK {
		y.t.Fatalf("P16.2: Ping(%d) of %d", w.to, w.from)
	}
	y.collect(w.from)
}

// deliver brings a letter in, and holds what its taker sees then against P16.5.
func (y *yard) deliver(l letter) {
	y.t.Helper()
	b := y.buses[l.to]
	was := epochsOf(b.View())
	if !b.Take(l.bytes) {
		y.t.Fatalf("P16.2: node %d does not take %s", l.to, brief(Out{l.to, l.bytes}))
	}
	if kind := int(l.bytes[0]); kind == api.Ping || kind == api.Pong {
		y.heard[l.way] = true
	}
	y.collect(l.to)
	checkNoneFell(y.t, "among others", was, epochsOf(b.View()))
	y.check(l.to)
}

// check: no slot's owner, as the node sees it, is anybody but the one who claimed it at the beginning; and of those that it has heard, and of itself, it knows all.
func (y *yard) check(node int) {
	y.t.Helper()
	known := map[int]bool{node: true}
	for _, from := range y.nodes {
		known[from] = known[from] || y.heard[way{from, node}]
	}
	v := y.buses[node].View()
	for n, owner := range y.owner {
		if got := v.Owner(n); got != owner && (got != -1 || known[owner]) {
			y.t.Fatalf("P16.5: node %d sees the slot %d of %d at %d", node, n, owner, got)
		}
	}
	if v.Claims(node) != y.claims[node] {
		y.t.Fatalf("P16.5: node %d has other slots than at the beginning", node)
	}
}

// allHeard tells whether each has taken a Ping or a Pong of each other one.
func (y *yard) allHeard() bool { return len(y.heard) == len(y.nodes)*(len(y.nodes)-1) }

// checkAllSee tells that all see the same owners, those of the beginning.
func (y *yard) checkAllSee() {
	y.t.Helper()
	for _, node := range y.nodes {
		v := y.buses[node].View()
		for n, owner := range y.owner {
			if v.Owner(n) != owner {
				y.t.Fatalf("P16.5: all have heard all, and node %d sees the slot %d of %d at %d", node, n, owner, v.Owner(n))
			}
		}
	}
}

// step lets one thing of chance happen: a Ping, or a letter is delivered, lost, doubled, or spoilt on its way. Of ten so many are lost.
func (y *yard) step(lost int) {
	y.t.Helper()
	if len(y.letters) == 0 || len(y.toPing) > 0 && y.c.below(3) == 0 {
		y.tell()
		return
	}
	i := y.c.below(len(y.letters))
	l := y.letters[i]
	switch k := y.c.below(10); {
	case k < lost:
		y.letters = slices.Delete(y.letters, i, i+1)
	case k == 8:
		y.letters = append(y.letters, l)
	case k == 9:
		b := y.buses[l.to]
		if b.Take(spoil(y.c, l.bytes)) {
			y.t.Fatalf("P16.4: node %d takes what was spoilt", l.to)
		}
		y.collect(l.to)
		y.check(l.to)
	default:
		y.letters = slices.Delete(y.letters, i, i+1)
		y.deliver(l)
	}
}

// run pings, delivers, loses and doubles till each has heard of each other one, and then delivers the rest.
func (y *yard) run(lost int) {
	y.t.Helper()
	for rounds := 0; !y.allHeard(); {
		if len(y.letters) == 0 && len(y.toPing) == 0 {
			// All of it is delivered or lost: those who were not heard ping once more.
			if rounds++; rounds > 100 {
				y.t.Fatal("P16.5: whoever pings, and however often: not all hear all")
			}
			for _, from := range y.nodes {
				for _, to := range y.nodes {
					if from != to && !y.heard[way{from, to}] {
						y.toPing = append(y.toPing, way{from, to})
					}
				}
			}
		}
		y.step(lost)
	}
	y.checkAllSee() // As soon as they have.
	for steps := 0; (len(y.letters) > 0 || len(y.toPing) > 0) && steps < 500; steps++ {
		y.step(lost)
	}
	y.checkAllSee()
}

// unlike are so many numbers below most, none twice.
func unlike(c *chance, many, most int) []int {
	var l []int
	for len(l) < many {
		if n := c.below(most); !slices.Contains(l, n) {
			l = append(l, n)
		}
	}
	return l
}

// epochsFor are so many unlike epochs: near one another, or far, the least and the greatest among them.
func epochsFor(c *chance, many int) []uint64 {
	most := many + c.below(5)
	if c.below(2) == 0 {
		most = 1 << 40
	}
	l := make([]uint64, many)
	for i, n := range unlike(c, many, most) {
		l[i] = uint64(n)
	}
	if c.below(3) == 0 {
		l[slices.Index(l, slices.Max(l))] = top
	}
	if c.below(3) == 0 {
		l[slices.Index(l, slices.Min(l))] = 0
	}
	return l
}

// sharings are ways in which slots are shared among so many: -1 is nobody.
func sharings(c *chance, many int) func(n int) int {
	salt := c.next()
	switch c.below(4) {
	case 0: // One stretch each.
		return func(n int) int { return n * many / api.Slots }
	case 1: // Turn by turn, and the first of them nobody's.
		return func(n int) int { return n/100%(many+1) - 1 }
	case 2: // The first has all.
		return func(n int) int { return 0 }
	}
	return func(n int) int { // In no order, some nobody's.
		return int((uint64(n/40)*0x9e3779b97f4a7c15^salt)>>33%uint64(many+1)) - 1
	}
}

func TestBusesAmongThemselves(t *testing.T) {
	c := chance(165)
	for i := range 40 {
		many := 2 + c.below(5)
		nodes := unlike(&c, many, api.MaxNodes)
		if i%4 == 0 {
			nodes[0] = 0
			nodes[1] = api.MaxNodes - 1
			nodes = slices.Compact(slices.Sorted(slices.Values(nodes)))
		}
		share := sharings(&c, len(nodes))
		whose := func(n int) int {
			if i := share(n); i >= 0 {
				return nodes[i]
			}
			return -1
		}
		newYard(t, &c, nodes, epochsFor(&c, len(nodes)), whose).run([]int{0, 2, 4, 6}[i%4])
	}
}

// As many nodes as there may be, each with slots at both ends and between.
func TestAllNodes(t *testing.T) {
	c := chance(64)
	var nodes []int
	for node := range api.MaxNodes {
		nodes = append(nodes, node)
	}
	y := newYard(t, &c, nodes, epochsFor(&c, len(nodes)), func(n int) int { return n / 32 % api.MaxNodes })
	y.run(1)
}

// Like epochs, and slots that several claim: P16.5 does not speak of them, but each bus does as its model does.
func TestBusesThatQuarrel(t *testing.T) {
	c := chance(166)
	for range 12 {
		const many, few = 4, 24
		var buses [many]*Bus
		var models [many]*plain
		for i := range buses {
			claims := slots(func(n int) bool { return n < few && c.below(2) == 0 })
			buses[i], models[i] = both(t, i, claims, uint64(c.below(3)))
		}
		var letters []letter
		for steps := range 150 {
			node := c.below(many)
			if len(letters) > 0 && steps%3 > 0 {
				i := c.below(len(letters))
				l := letters[i]
				node = l.to
				checkTake(t, buses[node], models[node], l.bytes, true)
				if c.below(4) > 0 {
					letters = slices.Delete(letters, i, i+1)
				}
			} else {
				checkTells(t, buses[node], models[node], api.Ping, (node+1+c.below(many-1))%many, api.OK)
			}
			l := buses[node].Outs()
			checkOuts(t, "P16.3: among quarrelling ones", l, models[node].told())
			for _, o := range l {
				letters = append(letters, letter{way{node, o.To}, o.Bytes})
			}
			checkSees(t, "P16.2: among quarrelling ones", buses[node].View(), models[node])
		}
	}
}
