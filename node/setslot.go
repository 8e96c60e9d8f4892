package node

import (
	"math"

	"marshalyard/api"
	"marshalyard/number"
	"marshalyard/reply"
	"marshalyard/slot"
)

// The texts of the Faults, in the chapter's order.
const (
	faultSyntax       = "ERR syntax"
	faultNoSlot       = "ERR no such slot"
	faultNoNode       = "ERR no such node"
	faultNoNumber     = "ERR not a number"
	faultBusy         = "ERR busy"
	faultOwner        = "ERR owner"
	faultNotOwner     = "ERR not owner"
	faultNotEmpty     = "ERR not empty"
	faultNotImporting = "ERR not importing"
	faultNotMigrating = "ERR not migrating"
	faultMigrate      = "ERR migrate"
)

// mostEpoch is the greatest epoch that a slot may be taken at.
const mostEpoch = 1 << 62

// shape is how an order is written behind its word, and what it does.
type shape struct {
	node        bool // whether another node's number stands there
	number      bool // whether a last number stands there
	least, most int  // between which that is
	does        func(n *Node, o order) api.Reply
}

// order is what a SETSLOT says: its last number is a token or an epoch.
type order struct{ slot, node, number int }

// shapeOf is that of the orders of a word; false, if it is none.
func shapeOf(word string) (shape, bool) {
	switch great(word) {
	case "IMPORTING":
		return shape{node: true, number: true, least: 1, most: api.MaxTime, does: (*Node).importFrom}, true
	case "MIGRATING":
		return shape{node: true, number: true, least: 1, most: api.MaxTime, does: (*Node).migrateTo}, true
	case "NODE":
		return shape{node: true, does: (*Node).give}, true
	case "TAKE":
		return shape{number: true, least: 0, most: mostEpoch, does: (*Node).takeOver}, true
	case "STABLE":
		return shape{does: (*Node).settle}, true
	}
	return shape{}, false
}

// many is how many arguments stand behind the word.
func (x shape) many() int {
	many := 0
	if x.node {
		many++
	}
	if x.number {
		many++
	}
	return many
}

// setslot does an order on a slot's move, or its owner.
func (n *Node) setslot(args []string) api.Reply {
	if len(args) < 3 {
		return reply.Wrong(faultSyntax)
	}
	x, is := shapeOf(args[2])
	if !is || len(args)-3 != x.many() {
		return reply.Wrong(faultSyntax)
	}
	o, fault := n.orderOf(x, args)
	if fault != "" {
		return reply.Wrong(fault)
	}
	return x.does(n, o)
}

// orderOf reads an order of that shape; or tells the Fault with which it is amiss, whatever its word is.
func (n *Node) orderOf(x shape, args []string) (order, string) {
	var o order
	var is bool
	if o.slot, is = slotOf(args[1]); !is {
		return order{}, faultNoSlot
	}
	if x.node {
		if o.node, is = n.otherOf(args[3]); !is {
			return order{}, faultNoNode
		}
	}
	if x.number {
		if o.number, is = within(args[len(args)-1], x.least, x.most); !is {
			return order{}, faultNoNumber
		}
	}
	if n.busy(o.slot) {
		return order{}, faultBusy
	}
	return o, ""
}

// busy tells whether a key of the slot is held.
func (n *Node) busy(s int) bool {
	for key := range n.held {
		if slot.Of(key) == s {
			return true
		}
	}
	return false
}

// importFrom lets a slot come; migrateTo lets it go.
func (n *Node) importFrom(o order) api.Reply {
	if n.owns(o.slot) {
		return reply.Wrong(faultOwner)
	}
	m := n.move(o.slot)
	m.from, m.token = o.node, o.number
	n.moves[o.slot] = m
	return done()
}

func (n *Node) migrateTo(o order) api.Reply {
	if !n.owns(o.slot) {
		return reply.Wrong(faultNotOwner)
	}
	m := n.move(o.slot)
	m.to, m.token = o.node, o.number
	n.moves[o.slot] = m
	return done()
}

// give makes a slot another node's, and answers the epoch that this one is to be above.
func (n *Node) give(o order) api.Reply {
	if n.owns(o.slot) && n.space.Count(o.slot) > 0 {
		return reply.Wrong(faultNotEmpty)
	}
	n.bus.Give(o.slot, o.node)
	n.settle(o)
	return reply.Number(int(min(n.bus.View().Epoch(n.self), math.MaxInt)))
}

// takeOver makes a slot that comes the node's own.
func (n *Node) takeOver(o order) api.Reply {
	if !n.owns(o.slot) {
		if n.move(o.slot).from == nobody {
			return reply.Wrong(faultNotImporting)
		}
		n.bus.Win(o.slot, uint64(o.number))
	}
	return n.settle(o)
}

// settle lets a slot neither go nor come.
func (n *Node) settle(o order) api.Reply {
	delete(n.moves, o.slot)
	return done()
}

// slotOf is the slot whose number a text is; otherOf the node, if it is not this one.
func slotOf(s string) (int, bool) { return within(s, 0, api.Slots-1) }

func (n *Node) otherOf(s string) (int, bool) {
	node, is := within(s, 0, api.MaxNodes-1)
	if !is || node == n.self {
		return 0, false
	}
	return node, true
}

// within is the number that a text is, if it is one from least to most.
func within(s string, least, most int) (int, bool) {
	m, e := number.Parse(s)
	if e != api.OK || m < least || m > most {
		return 0, false
	}
	return m, true
}
