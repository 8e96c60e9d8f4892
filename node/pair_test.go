package node

import (
	"maps"
	"slices"
	"strconv"
	"strings"
	"testing"

	"marshalyard/api"
	"marshalyard/exec"
	"marshalyard/keyspace"
	"marshalyard/links"
	"marshalyard/reply"
	"marshalyard/route"
	"marshalyard/slot"
	"marshalyard/value"
)

// Two nodes between which slots go, key by key, while clients go on: what is answered is held against one keyspace, and where each key is looked at behind each letter.

const (
	operator = 128
	clients  = 3
	batch    = 2
)

// asked is a client's command that is under way, to be sent once more wherever it is led on.
type asked struct {
	args []string
	busy bool
}

type pair struct {
	t      *testing.T
	what   string
	c      chance
	nodes  [2]*Node
	way    *links.Links
	clock  int
	whole  *keyspace.Space // as if all keys were here
	asked  [clients]asked
	plan   []func() bool // what the operator does next; false: once more
	last   api.Reply
	waits  bool
	token  int
	keys   []string // still to be migrated
	moved  int      // how many moves came to their end
	served int
}

func newPair(t *testing.T, seed int) *pair {
	t.Helper()
	p := &pair{t: t, what: "the pair " + strconv.Itoa(seed), c: chance(seed), way: links.New(), whole: keyspace.New(1 << 40)}
	for i := range p.nodes {
		n, e := New(i, slots(func(s int) bool { return s/8192 == i }), uint64(1+i), roomy)
		if e != api.OK {
			t.Fatal("P19.1:", e)
		}
		p.nodes[i] = n
	}
	p.gossip()
	return p
}

// gossip tells each node what the other one is.
func (p *pair) gossip() {
	for i, n := range p.nodes {
		n.Bus().Ping(1 - i)
	}
	for range 3 {
		for i, n := range p.nodes {
			for _, out := range n.Bus().Outs() {
				p.nodes[1-i].Bus().Take(out.Bytes)
			}
		}
	}
}

// names are the keys of a script: some of a slot of each node.
func names() []string {
	var l []string
	for _, tag := range []string{"foo", "bar", "a"} {
		for i := range 4 {
			l = append(l, "{"+tag+"}"+strconv.Itoa(i))
		}
	}
	return l
}

func (p *pair) command() []string {
	k := pick(&p.c, names())
	same := slices.DeleteFunc(names(), func(s string) bool { return slot.Of(s) != slot.Of(k) })
	other := pick(&p.c, same)
	word := strconv.Itoa(p.c.below(100))
	return pick(&p.c, [][]string{
		{"SET", k, word}, {"SET", k, word}, {"GET", k}, {"APPEND", k, word}, {"INCRBY", k, word}, {"DEL", k}, {"MGET", k, other}, {"MSET", k, word, other, word}, {"EXISTS", k, other}, {"RPUSH", k, word}, {"LPOP", k}, {"EXPIRE", k, strconv.Itoa(1 + p.c.below(30))}, {"TTL", k}, {"DEL", k, other}, {"TYPE", k},
	})
}

// begin lets a client ask a node that it may know to be the owner, or not.
func (p *pair) begin(who int) {
	if p.asked[who].busy {
		return
	}
	p.asked[who] = asked{args: p.command(), busy: true}
	p.ask(who, p.c.below(2), 0)
}

func (p *pair) ask(who, to, token int) {
	p.way.Send(64+who, to, api.Letter{Kind: api.LinkCall, Number: who, Args: p.asked[who].args, Asking: token})
}

// follow does what a client is told.
func (p *pair) follow(who int, r api.Reply) {
	d, led := route.Read(r.Text)
	if r.Kind != api.Fault || !led {
		p.asked[who].busy = false
		return
	}
	switch d.Kind {
	case api.Moved, api.Ask:
		p.ask(who, d.Node, d.Token)
	case api.Again:
		p.ask(who, p.c.below(2), 0)
	default:
		p.t.Fatalf("%s: P19.2: %+q is answered %s", p.what, p.asked[who].args, r.Text)
	}
}

// deliver brings the next letter of a link.
func (p *pair) deliver(from, to int) {
	l, is := p.way.Next(from, to)
	switch {
	case !is:
		return
	case to == operator:
		p.last, p.waits = l.Reply, false
		return
	case to >= 64:
		p.follow(to-64, l.Reply)
		return
	}
	for _, s := range p.nodes[to].Take(from, l, p.clock) {
		if l.Kind == api.LinkCall && from != operator {
			p.checkServed(to, l.Args, s.Letter.Reply)
		}
		p.way.Send(to, s.To, s.Letter)
	}
	p.checkKeys()
}

// checkServed does a command that a node has done on the one keyspace too.
func (p *pair) checkServed(node int, args []string, got api.Reply) {
	if _, led := route.Read(got.Text); led && got.Kind == api.Fault {
		return
	}
	want := exec.Do(p.whole, args, p.clock)
	p.served++
	if !reply.Same(got, want) {
		p.t.Fatalf("%s: P19.4: the node %d answers %+q at %d by %s, not %s", p.what, node, args, p.clock, writtenReply(got), writtenReply(want))
	}
}

// checkKeys holds both nodes' keys against the one keyspace's.
func (p *pair) checkKeys() {
	p.t.Helper()
	p.whole.Tick(p.clock)
	var spaces [2]*keyspace.Space
	for i, n := range p.nodes {
		spaces[i] = n.Space()
		spaces[i].Tick(p.clock) // A node's clock goes on by letters alone.
	}
	for _, key := range names() {
		want, there := p.whole.Get(key)
		var on []int
		for i := range spaces {
			e, is := spaces[i].Get(key)
			if !is {
				continue
			}
			on = append(on, i)
			if !there || !value.Same(e.Value, want.Value) || e.Ends != want.Ends {
				p.t.Fatalf("%s: P19.4: %+q on the node %d: %+v, not %v %+v", p.what, key, i, e, there, want)
			}
		}
		if there && len(on) == 0 {
			p.t.Fatalf("%s: P19.4: %+q is lost", p.what, key)
		}
		if len(on) == 2 && !slices.Contains(p.nodes[0].Held(), key) && !slices.Contains(p.nodes[1].Held(), key) {
			p.t.Fatalf("%s: P19.4: %+q is on both, and held at none", p.what, key)
		}
		if len(on) == 2 {
			first := 0
			if slices.Contains(p.nodes[1].Held(), key) {
				first = 1
			}
			if to, _, _ := p.nodes[first].Moving(slot.Of(key)); to != 1-first {
				p.t.Fatalf("%s: P19.4: %+q is held at the node %d, from which its slot goes to %d", p.what, key, first, to)
			}
		}
	}
}

// tell lets the operator send a call; the move goes on as soon as it is answered.
func (p *pair) tell(to int, args ...string) {
	p.waits = true
	p.way.Send(operator, to, api.Letter{Kind: api.LinkCall, Args: args})
}

func (p *pair) told(want ...string) bool {
	p.t.Helper()
	if p.last.Kind == api.Fault && p.last.Text == "ERR busy" {
		return false
	}
	if len(want) > 0 && !slices.Contains(want, p.last.Text) {
		p.t.Fatalf("%s: P19.2: the operator is answered %s, not %+q", p.what, writtenReply(p.last), want)
	}
	return true
}

// plans lays down the calls by which a slot goes from a node to the other one.
func (p *pair) plans(s, from int) {
	to, slot := 1-from, strconv.Itoa(s)
	p.token++
	token := strconv.Itoa(p.token)
	p.plan = []func() bool{
		func() bool {
			p.tell(to, "SETSLOT", slot, "IMPORTING", strconv.Itoa(from), token)
			return true
		},
		func() bool {
			p.told("OK")
			p.tell(from, "SETSLOT", slot, "MIGRATING", strconv.Itoa(to), token)
			return true
		},
		func() bool { p.told("OK"); p.tell(from, "KEYS", slot, strconv.Itoa(batch)); return true },
		func() bool { return p.migrates(slot, from, to) },
		func() bool { p.tell(from, "SETSLOT", slot, "NODE", strconv.Itoa(to)); return true },
		func() bool {
			if p.last.Kind == api.Fault {
				p.t.Fatalf("%s: P19.2: NODE is answered %s", p.what, p.last.Text)
			}
			p.tell(to, "SETSLOT", slot, "TAKE", strconv.Itoa(p.last.Int))
			return true
		},
		func() bool { p.told("OK"); p.moved++; return true },
	}
}

// migrates goes through the keys that were told, and asks for more, till there are none.
func (p *pair) migrates(slot string, from, to int) bool {
	switch {
	case p.last.Kind == api.Many && len(p.last.List) == 0:
		p.waits = false
		return true
	case p.last.Kind == api.Many:
		p.keys = nil
		for _, r := range p.last.List {
			p.keys = append(p.keys, r.Text)
		}
	default:
		p.told("OK", "NOKEY", "TRYAGAIN", "ERR migrate")
	}
	if len(p.keys) == 0 {
		p.tell(from, "KEYS", slot, strconv.Itoa(batch))
		return false
	}
	p.tell(from, "MIGRATE", slot, p.keys[0], strconv.Itoa(to))
	p.keys = p.keys[1:]
	return false
}

// operates does the operator's next call, if the last one is answered.
func (p *pair) operates() {
	if p.waits {
		return
	}
	if len(p.plan) == 0 {
		s := slot.Of(pick(&p.c, names()))
		p.plans(s, p.nodes[0].Bus().View().Owner(s))
		return
	}
	if p.plan[0]() {
		p.plan = p.plan[1:]
	}
}

// step does one thing by chance.
func (p *pair) step() {
	switch x := p.c.below(20); {
	case x < 3:
		p.begin(p.c.below(clients))
	case x < 6:
		p.operates()
	case x == 6 && p.c.below(4) == 0:
		p.clock += p.c.below(3)
	default:
		if l := p.way.Pairs(); len(l) > 0 {
			link := pick(&p.c, l)
			p.deliver(link[0], link[1])
		}
	}
}

// settle lets the move that is under way come to its end, and all letters.
func (p *pair) settle() {
	for i := 0; len(p.plan) > 0 || len(p.way.Pairs()) > 0; i++ {
		if i > 20000 {
			p.t.Fatalf("%s: P19.4: the move does not come to its end", p.what)
		}
		if len(p.plan) > 0 && p.c.below(3) == 0 {
			p.operates()
		}
		if l := p.way.Pairs(); len(l) > 0 {
			link := pick(&p.c, l)
			p.deliver(link[0], link[1])
		}
	}
}

func (p *pair) checkEnd() {
	p.t.Helper()
	p.gossip()
	for i, n := range p.nodes {
		if l := n.Held(); len(l) > 0 {
			p.t.Fatalf("%s: P19.4: behind all letters the node %d holds %+q", p.what, i, l)
		}
		for _, key := range names() {
			if g, c, k := n.Moving(slot.Of(key)); g != -1 || c != -1 || k != 0 {
				p.t.Fatalf("%s: P19.4: behind all letters %+q goes to %d, comes from %d, by %d", p.what, key, g, c, k)
			}
		}
		for _, e := range n.Space().All() {
			if owner := n.Bus().View().Owner(slot.Of(e.Key)); owner != i {
				p.t.Fatalf("%s: P19.4: behind all letters %+q is on the node %d, its slot with %d", p.what, e.Key, i, owner)
			}
		}
	}
	p.checkKeys()
}

func TestTwoNodes(t *testing.T) {
	moved, served := 0, 0
	for seed := range 60 {
		p := newPair(t, seed)
		for range 8 {
			for range 250 {
				p.step()
			}
			p.settle()
			p.checkEnd()
		}
		moved, served = moved+p.moved, served+p.served
	}
	if moved < 600 || served < 4000 {
		t.Errorf("P19.4: just %d slots have moved, and %d commands were served", moved, served)
	}
}

// TestSlotToANodeThatIsFull: what has no room stays where it was, whole, and is served there.
func TestSlotToANodeThatIsFull(t *testing.T) {
	a, _ := New(0, all(), 1, roomy)
	full, e := New(2, none(), 9, 60) // room for two of them
	if e != api.OK || a == nil {
		t.Fatal("P19.1:", e)
	}
	tell := func(n *Node, args ...string) string { return answered(n.Take(client, call(args...), 0), client, 7) }
	tell(full, "SETSLOT", "12182", "IMPORTING", "0", "7")
	keys := map[string]string{}
	for i := range 5 {
		keys["{foo}"+strconv.Itoa(i)] = strconv.Itoa(i)
		tell(a, "SET", "{foo}"+strconv.Itoa(i), strconv.Itoa(i))
	}
	tell(a, "SETSLOT", "12182", "MIGRATING", "2", "7")
	var answers []string
	for _, key := range slices.Sorted(maps.Keys(keys)) {
		for _, x := range a.Take(client, call("MIGRATE", "12182", key, "2"), 0) {
			for _, y := range full.Take(0, x.Letter, 0) {
				answers = append(answers, answered(a.Take(2, y.Letter, 0), client, 7))
			}
		}
	}
	if got := strings.Join(answers, ", "); got != "OK, OK, !ERR migrate, !ERR migrate, !ERR migrate" {
		t.Errorf("P19.2: the answers are %s", got)
	}
	for key, want := range keys {
		asking := call("GET", key)
		asking.Asking = 7
		here, there := tell(a, "GET", key), answered(full.Take(client, asking, 0), client, 7)
		if moved := key < "{foo}2"; moved && (here != "!ASK 12182 2 7" || there != want) || !moved && (here != want || there != "nil") {
			t.Errorf("P19.4: %s is %s at the first, and %s at the second", key, here, there)
		}
	}
	if got := tell(a, "SETSLOT", "12182", "NODE", "2"); got != "!ERR not empty" {
		t.Errorf("P19.2: NODE of a slot with keys left is answered %s", got)
	}
}
