package exec

import (
	"marshalyard/api"
	"marshalyard/number"
	"marshalyard/point"
	"marshalyard/reply"
)

// onPoint does a command for points; numbers and points that it names are looked at ahead of the kind.
func (c call) onPoint() api.Reply {
	reckon := point.Add
	switch c.name {
	case "PMUL":
		reckon = point.Times
		fallthrough
	case "PADD":
		by, e := point.Parse(c.args[1])
		if e != api.OK {
			return reply.Wrong(notPoint)
		}
		return c.changePoint(func(p api.Point) (api.Point, api.Errno) { return reckon(p, by) })
	case "PTURN":
		n, e := number.Parse(c.args[1])
		if e != api.OK {
			return reply.Wrong(notNumber)
		}
		return c.changePoint(func(p api.Point) (api.Point, api.Errno) { return point.Turn(p, n), api.OK })
	case "PNORM":
		return c.look(api.KindPoint, func(v api.Value, _ bool) api.Reply { return reply.Number(point.Norm(v.Point)) })
	}
	return c.look(api.KindPoint, func(v api.Value, there bool) api.Reply { return textOrNil(point.Print(v.Point), there) })
}

// changePoint makes the key's point be what next tells of it.
func (c call) changePoint(next func(p api.Point) (api.Point, api.Errno)) api.Reply {
	return c.change(api.KindPoint, func(v *api.Value, _ bool) api.Reply {
		p, e := next(v.Point)
		if e != api.OK {
			return reply.Wrong(overflow)
		}
		v.Point = p
		return reply.Text(point.Print(p))
	})
}
