package exec

import (
	"marshalyard/api"
	"marshalyard/reply"
	"marshalyard/sets"
)

// onSet does a command for one set.
func (c call) onSet() api.Reply {
	join := sets.Less
	switch c.name {
	case "SADD":
		join = sets.Union
		fallthrough
	case "SREM":
		return c.change(api.KindSet, func(v *api.Value, _ bool) api.Reply {
			many := len(v.Items)
			v.Items = join(v.Items, sets.Make(c.args[1:]))
			return reply.Number(max(many, len(v.Items)) - min(many, len(v.Items)))
		})
	case "SHAS":
		return c.look(api.KindSet, func(v api.Value, _ bool) api.Reply { return oneOrNought(sets.Has(v.Items, c.args[1])) })
	case "SCARD":
		return c.look(api.KindSet, func(v api.Value, _ bool) api.Reply { return reply.Number(len(v.Items)) })
	}
	return c.look(api.KindSet, func(v api.Value, _ bool) api.Reply { return reply.List(v.Items...) })
}

// onSets does a command for several sets, from the first to the last.
func (c call) onSets() api.Reply {
	join := sets.Union
	switch c.name {
	case "SINTER":
		join = sets.Meet
	case "SDIFF":
		join = sets.Less
	}
	var all []string
	for i, key := range c.args {
		e, there := c.space.Get(key)
		if there && e.Value.Kind != api.KindSet {
			return reply.Wrong(wrongKind)
		}
		if i == 0 {
			all = e.Value.Items
		} else {
			all = join(all, e.Value.Items)
		}
	}
	return reply.List(all...)
}

func oneOrNought(is bool) api.Reply {
	if is {
		return reply.Number(1)
	}
	return reply.Number(0)
}
