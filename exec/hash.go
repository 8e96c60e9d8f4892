package exec

import (
	"slices"
	"strings"

	"marshalyard/api"
	"marshalyard/reply"
)

// onHash does a command for hashes.
func (c call) onHash() api.Reply {
	switch c.name {
	case "HGET":
		return c.look(api.KindHash, func(v api.Value, _ bool) api.Reply { return field(v.Pairs, c.args[1]) })
	case "HLEN":
		return c.look(api.KindHash, func(v api.Value, _ bool) api.Reply { return reply.Number(len(v.Pairs)) })
	case "HALL":
		return c.look(api.KindHash, func(v api.Value, _ bool) api.Reply { return reply.List(flat(v.Pairs)...) })
	case "HDEL":
		return c.change(api.KindHash, func(v *api.Value, _ bool) api.Reply {
			many := len(v.Pairs)
			for _, name := range c.args[1:] {
				v.Pairs = without(v.Pairs, name)
			}
			return reply.Number(many - len(v.Pairs))
		})
	}
	return c.hSet()
}

func (c call) hSet() api.Reply {
	fields := c.args[1:]
	if len(fields)%2 != 0 {
		return reply.Wrong(noPairs)
	}
	return c.change(api.KindHash, func(v *api.Value, _ bool) api.Reply {
		many := len(v.Pairs)
		for i := 0; i < len(fields); i += 2 {
			v.Pairs = with(v.Pairs, api.Pair{Name: fields[i], Value: fields[i+1]})
		}
		return reply.Number(len(v.Pairs) - many)
	})
}

// place is where a field stands, or would stand, among pairs that rise, and whether it is there.
func place(pairs []api.Pair, name string) (int, bool) {
	return slices.BinarySearchFunc(pairs, name, func(p api.Pair, name string) int { return strings.Compare(p.Name, name) })
}

func field(pairs []api.Pair, name string) api.Reply {
	at, there := place(pairs, name)
	if !there {
		return textOrNil("", false)
	}
	return reply.Text(pairs[at].Value)
}

// with and without write into the pairs that they are given.
func with(pairs []api.Pair, p api.Pair) []api.Pair {
	at, there := place(pairs, p.Name)
	if !there {
		return slices.Insert(pairs, at, p)
	}
	pairs[at] = p
	return pairs
}

func without(pairs []api.Pair, name string) []api.Pair {
	at, there := place(pairs, name)
	if !there {
		return pairs
	}
	return slices.Delete(pairs, at, at+1)
}

// flat are the fields, each with its value behind it.
func flat(pairs []api.Pair) []string {
	var all []string
	for _, p := range pairs {
		all = append(all, p.Name, p.Value)
	}
	return all
}
