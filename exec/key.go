package exec

import (
	"marshalyard/api"
	"marshalyard/number"
	"marshalyard/reply"
	"marshalyard/slot"
	"marshalyard/value"
)

// onTime does a command for when keys end.
func (c call) onTime() api.Reply {
	switch c.name {
	case "EXPIRE":
		return c.expire()
	case "PERSIST":
		return c.persist()
	}
	e, there := c.space.Get(c.key())
	if !there {
		return reply.Number(-2)
	}
	if e.Ends == 0 {
		return reply.Number(-1)
	}
	return reply.Number(e.Ends - c.space.Now())
}

func (c call) expire() api.Reply {
	n, bad := number.Parse(c.args[1])
	if bad != api.OK {
		return reply.Wrong(notNumber)
	}
	e, there := c.space.Get(c.key())
	if !there {
		return reply.Number(0)
	}
	now := c.space.Now()
	// The lesser one is taken ahead of the sum, which could be too great otherwise.
	e.Ends = now + min(n, api.MaxTime-now)
	if e.Ends <= now {
		c.space.Delete(c.key())
		return reply.Number(1)
	}
	return c.put(e, reply.Number(1))
}

func (c call) persist() api.Reply {
	e, _ := c.space.Get(c.key())
	if e.Ends == 0 {
		return reply.Number(0)
	}
	e.Ends = 0
	return c.put(e, reply.Number(1))
}

// onAnyKind does a command that tells of keys, whatever they have.
func (c call) onAnyKind() api.Reply {
	switch c.name {
	case "EXISTS":
		many := 0
		for _, key := range c.args {
			if _, there := c.space.Get(key); there {
				many++
			}
		}
		return reply.Number(many)
	case "MGET":
		all := api.Reply{Kind: api.Many}
		for _, key := range c.args {
			e, _ := c.space.Get(key)
			all.List = append(all.List, textOrNil(e.Value.Text, e.Value.Kind == api.KindText))
		}
		return all
	case "TYPE":
		e, _ := c.space.Get(c.key())
		return simple(value.Type(e.Value))
	}
	e, there := c.space.Get(c.key())
	dump, _ := value.Dump(e.Value)
	return textOrNil(dump, there)
}

// onNoKey does a command that names no key.
func (c call) onNoKey() api.Reply {
	switch c.name {
	case "PING":
		return simple("PONG")
	case "ECHO":
		return reply.Text(c.args[0])
	case "KEYSLOT":
		return reply.Number(slot.Of(c.args[0]))
	}
	n, e := number.Parse(c.args[0])
	if e != api.OK || n < 0 || n >= api.Slots {
		return reply.Wrong(noSlot)
	}
	if c.name == "COUNT" {
		return reply.Number(c.space.Count(n))
	}
	most, e := number.Parse(c.args[1])
	if e != api.OK {
		return reply.Wrong(notNumber)
	}
	return reply.List(c.space.Keys(n, most)...)
}
