package exec

import (
	"marshalyard/api"
	"marshalyard/reply"
)

// entry is that of the key; if it is not there, one with an empty value of that kind. Its kind is another one, if right is false.
func (c call) entry(kind int) (e api.Entry, there, right bool) {
	e, there = c.space.Get(c.key())
	if !there {
		e = api.Entry{Key: c.key(), Value: api.Value{Kind: kind}}
	}
	return e, there, e.Value.Kind == kind
}

// look is what tell answers of the key's value.
func (c call) look(kind int, tell func(v api.Value, there bool) api.Reply) api.Reply {
	e, there, right := c.entry(kind)
	if !right {
		return reply.Wrong(wrongKind)
	}
	return tell(e.Value, there)
}

// change is what work answers of the key's value; the key then has what work made of it, and goes, if that is empty.
func (c call) change(kind int, work func(v *api.Value, there bool) api.Reply) api.Reply {
	e, there, right := c.entry(kind)
	if !right {
		return reply.Wrong(wrongKind)
	}
	r := work(&e.Value, there)
	if isFault(r) {
		return r
	}
	if isEmpty(e.Value) {
		c.space.Delete(c.key())
		return r
	}
	return c.put(e, r)
}

// put puts an entry that has not ended; it answers r, if the space takes it.
func (c call) put(e api.Entry, r api.Reply) api.Reply {
	switch c.space.Put(e) {
	case api.OK:
		return r
	case api.ErrKeyMemory:
		return reply.Wrong(noRoom)
	}
	// As its time is not over, only its key or its value can be refused.
	return reply.Wrong(tooLong)
}

// isEmpty tells whether nothing is left of a value whose key goes then.
func isEmpty(v api.Value) bool {
	switch v.Kind {
	case api.KindHash, api.KindList, api.KindSet:
		return len(v.Pairs) == 0 && len(v.Items) == 0
	}
	return false
}
