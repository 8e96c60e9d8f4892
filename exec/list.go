package exec

import (
	"marshalyard/api"
	"marshalyard/deque"
	"marshalyard/number"
	"marshalyard/reply"
)

// onEnds does a command for lists that works at an end, or with none.
func (c call) onEnds() api.Reply {
	front := false
	switch c.name {
	case "LPUSH":
		front = true
		fallthrough
	case "RPUSH":
		return c.changeRow(func(row *deque.Deque) api.Reply {
			for _, s := range c.args[1:] {
				if !row.Push(front, s) {
					return reply.Wrong(tooLong)
				}
			}
			return reply.Number(row.Len())
		})
	case "LPOP":
		front = true
		fallthrough
	case "RPOP":
		return c.changeRow(func(row *deque.Deque) api.Reply { return textOrNil(row.Pop(front)) })
	}
	return c.lookRow(func(row *deque.Deque) api.Reply { return reply.Number(row.Len()) })
}

// onPlaces does a command for lists that names places: these are looked at ahead of the kind.
func (c call) onPlaces() api.Reply {
	var from, to int
	var e api.Errno
	switch c.name {
	case "LRANGE", "LTRIM":
		if to, e = number.Parse(c.args[2]); e != api.OK {
			return reply.Wrong(notNumber)
		}
		fallthrough // Ahead of that they have one more number, as LINDEX has.
	case "LINDEX":
		if from, e = number.Parse(c.args[1]); e != api.OK {
			return reply.Wrong(notNumber)
		}
	}
	switch c.name {
	case "LRANGE":
		return c.lookRow(func(row *deque.Deque) api.Reply { return reply.List(row.Range(from, to)...) })
	case "LTRIM":
		return c.changeRow(func(row *deque.Deque) api.Reply {
			row.Trim(from, to)
			return done()
		})
	}
	return c.lookRow(func(row *deque.Deque) api.Reply { return textOrNil(row.At(from)) })
}

// lookRow and changeRow are look and change of a list, as a row that grows at both ends.
func (c call) lookRow(tell func(row *deque.Deque) api.Reply) api.Reply {
	return c.look(api.KindList, func(v api.Value, _ bool) api.Reply { return tell(rowOf(v.Items)) })
}

func (c call) changeRow(work func(row *deque.Deque) api.Reply) api.Reply {
	return c.change(api.KindList, func(v *api.Value, _ bool) api.Reply {
		row := rowOf(v.Items)
		r := work(row)
		v.Items = row.Range(0, -1)
		return r
	})
}

// rowOf needs no look at what Push tells: a list has no more items than a row takes.
func rowOf(items []string) *deque.Deque {
	row := deque.New()
	for _, s := range items {
		row.Push(false, s)
	}
	return row
}
