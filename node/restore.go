package node

import (
	"marshalyard/api"
	"marshalyard/reply"
	"marshalyard/slot"
	"marshalyard/value"
)

// restore takes in a key that comes from another node, and tells that one whether it could be.
func (n *Node) restore(from int, l api.Letter) []Sent {
	return send(from, api.Letter{Kind: api.LinkDone, Slot: l.Slot, Key: l.Key, Good: n.takeIn(from, l)})
}

func (n *Node) takeIn(from int, l api.Letter) bool {
	v, e := value.Load(l.Text)
	switch {
	case slot.Of(l.Key) != l.Slot || !n.comes(l.Slot, from):
		return false
	case e != api.OK || l.Ends < 0 || l.Ends > api.MaxTime || n.has(l.Key):
		return false
	case l.Ends > 0 && l.Ends <= n.space.Now():
		return true // It has ended on its way: so it is right that it is nowhere.
	}
	return n.space.Put(api.Entry{Key: l.Key, Value: v, Ends: l.Ends}) == api.OK
}

// comes tells whether a slot comes from that node.
func (n *Node) comes(s, from int) bool {
	m := n.move(s)
	return m.from != nobody && m.from == from
}

// release lets go a key that was held, of which the other node has told whether it is there now, and answers the call that asked for that.
func (n *Node) release(from int, l api.Letter) []Sent {
	h, is := n.held[l.Key]
	if !is || h.to != from {
		return nil
	}
	delete(n.held, l.Key)
	if !l.Good {
		return answer(h.caller, h.number, reply.Wrong(faultMigrate))
	}
	n.space.Delete(l.Key)
	return answer(h.caller, h.number, done())
}
