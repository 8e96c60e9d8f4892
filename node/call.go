package node

import (
	"marshalyard/api"
	"marshalyard/exec"
	"marshalyard/reply"
	"marshalyard/route"
	"marshalyard/slot"
	"marshalyard/table"
	"marshalyard/value"
)

// The names of the commands that are the node's own.
const (
	setslotName = "SETSLOT"
	migrateName = "MIGRATE"
)

// call does a command, and answers it.
func (n *Node) call(from int, l api.Letter) []Sent {
	switch great(name(l.Args)) {
	case setslotName:
		return answer(from, l.Number, n.setslot(l.Args))
	case migrateName:
		return n.migrate(from, l)
	}
	return answer(from, l.Number, n.serve(l))
}

// serve does a command on the keys that are here, if it belongs here.
func (n *Node) serve(l api.Letter) api.Reply {
	if keys := table.Keys(l.Args); len(keys) > 0 {
		d := route.Decide(n.caseOf(keys, l.Asking))
		if d.Kind != api.Serve {
			return reply.Wrong(route.Text(d))
		}
	}
	return exec.Do(n.space, l.Args, n.space.Now())
}

// caseOf is how things stand with the keys of a command.
func (n *Node) caseOf(keys []string, asking int) route.Case {
	first := slot.Of(keys[0])
	m := n.move(first)
	c := route.Case{Self: n.self, Owner: n.owner(first), Migrating: m.to, Importing: m.from, Token: m.token, Asking: asking}
	for _, key := range keys {
		c.Slots = append(c.Slots, slot.Of(key))
		c.Here = append(c.Here, n.has(key))
		c.Held = append(c.Held, n.holds(key))
	}
	return c
}

// migrate sends a key's value to the node that its slot goes to. The call is answered as soon as that node has answered.
func (n *Node) migrate(from int, l api.Letter) []Sent {
	to, r := n.mayMigrate(l.Args)
	if r.Kind != 0 {
		return answer(from, l.Number, r)
	}
	key := l.Args[2]
	n.held[key] = hold{to: to, caller: from, number: l.Number}
	e, _ := n.space.Get(key)
	text, _ := value.Dump(e.Value) // What is in a space is Right.
	return send(to, api.Letter{Kind: api.LinkRestore, Slot: slot.Of(key), Key: key, Text: text, Ends: e.Ends})
}

// mayMigrate tells where a key may go; or, if it may not, what is answered.
func (n *Node) mayMigrate(args []string) (int, api.Reply) {
	if len(args) != 4 {
		return 0, reply.Wrong(faultSyntax)
	}
	s, isSlot := slotOf(args[1])
	key := args[2]
	to, isNode := n.otherOf(args[3])
	switch {
	case !isSlot || slot.Of(key) != s:
		return 0, reply.Wrong(faultNoSlot)
	case !isNode:
		return 0, reply.Wrong(faultNoNode)
	case n.move(s).to != to:
		return 0, reply.Wrong(faultNotMigrating)
	case n.holds(key):
		return 0, reply.Wrong(route.Text(api.Decision{Kind: api.Again}))
	case !n.has(key):
		return 0, simple("NOKEY")
	}
	return to, api.Reply{}
}

func (n *Node) has(key string) bool {
	_, there := n.space.Get(key)
	return there
}

// send sends one letter; answer one that answers a call.
func send(to int, l api.Letter) []Sent { return []Sent{{To: to, Letter: l}} }

func answer(to, number int, r api.Reply) []Sent {
	return send(to, api.Letter{Kind: api.LinkAnswer, Number: number, Reply: r})
}

func simple(s string) api.Reply { return api.Reply{Kind: api.Simple, Text: s} }

func done() api.Reply { return simple("OK") }

// name is the first argument, or none.
func name(args []string) string {
	if len(args) == 0 {
		return ""
	}
	return args[0]
}

// great is a word with A to Z for a to z, byte by byte: strings.ToUpper would make such letters of others too.
func great(word string) string {
	b := []byte(word)
	for i, c := range b {
		if 'a' <= c && c <= 'z' {
			b[i] = c - 'a' + 'A'
		}
	}
	return string(b)
}
