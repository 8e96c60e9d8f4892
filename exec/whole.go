package exec

import (
	"marshalyard/api"
	"marshalyard/number"
	"marshalyard/point"
	"marshalyard/reply"
	"marshalyard/value"
)

// onWhole does a command that gives keys other values, or takes them, whatever they have.
func (c call) onWhole() api.Reply {
	switch c.name {
	case "SET":
		fallthrough // It is an MSET of one pair.
	case "MSET":
		return c.setTexts(c.args)
	case "PSET":
		p, e := point.Parse(c.args[1])
		if e != api.OK {
			return reply.Wrong(notPoint)
		}
		return c.put(api.Entry{Key: c.key(), Value: api.Value{Kind: api.KindPoint, Point: p}}, done())
	case "RESTORE":
		return c.restore()
	}
	many := 0
	for _, key := range c.args {
		if c.space.Delete(key) {
			many++
		}
	}
	return reply.Number(many)
}

// setTexts gives keys their texts, pair by pair. If a later pair has a Fault, the keys ahead get back what they had, the last first: each time the space is as it was ahead of that pair, and so takes the former entry.
func (c call) setTexts(pairs []string) api.Reply {
	if len(pairs) == 0 {
		return done()
	}
	key, text := pairs[0], pairs[1]
	former, there := c.space.Get(key)
	r := c.put(api.Entry{Key: key, Value: api.Value{Kind: api.KindText, Text: text}}, done())
	if isFault(r) {
		return r
	}
	r = c.setTexts(pairs[2:])
	if isFault(r) {
		c.bring(key, former, there)
	}
	return r
}

// bring makes a key be what it was.
func (c call) bring(key string, former api.Entry, there bool) {
	if there {
		c.space.Put(former)
	} else {
		c.space.Delete(key)
	}
}

func (c call) restore() api.Reply {
	ends, e := number.Parse(c.args[1])
	if e != api.OK || ends < 0 || ends > api.MaxTime {
		return reply.Wrong(notNumber)
	}
	if _, there := c.space.Get(c.key()); there {
		return reply.Wrong(busyKey)
	}
	v, e := value.Load(c.args[2])
	if e != api.OK {
		return reply.Wrong(badPayload)
	}
	if ends > 0 && ends <= c.space.Now() {
		return reply.Wrong(past)
	}
	return c.put(api.Entry{Key: c.key(), Value: v, Ends: ends}, done())
}
