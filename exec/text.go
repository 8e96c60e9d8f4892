package exec

import (
	"marshalyard/api"
	"marshalyard/number"
	"marshalyard/reply"
)

// onText does a command for texts.
func (c call) onText() api.Reply {
	switch c.name {
	case "GET":
		return c.look(api.KindText, func(v api.Value, there bool) api.Reply { return textOrNil(v.Text, there) })
	case "STRLEN":
		return c.look(api.KindText, func(v api.Value, _ bool) api.Reply { return reply.Number(len(v.Text)) })
	case "APPEND":
		return c.change(api.KindText, func(v *api.Value, _ bool) api.Reply {
			v.Text += c.args[1]
			return reply.Number(len(v.Text))
		})
	}
	return c.incrBy()
}

func (c call) incrBy() api.Reply {
	n, e := number.Parse(c.args[1])
	if e != api.OK {
		return reply.Wrong(notNumber)
	}
	return c.change(api.KindText, func(v *api.Value, there bool) api.Reply {
		former := "0"
		if there {
			former = v.Text
		}
		m, e := number.Parse(former)
		if e != api.OK {
			return reply.Wrong(notNumber)
		}
		sum, e := number.Add(m, n)
		if e != api.OK {
			return reply.Wrong(overflow)
		}
		v.Text = number.Print(sum)
		return reply.Number(sum)
	})
}
