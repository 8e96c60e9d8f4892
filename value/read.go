package value

import (
	"marshalyard/api"
	"marshalyard/crc"
)

// sumHolds tells whether a dump's last bytes are the sum of those ahead.
func sumHolds(s string) bool {
	at := len(s) - sumBytes
	r := reader{rest: s[at:]}
	return r.number(sumBytes) == int(crc.Sum([]byte(s[:at])))
}

// reader goes through what Dump wrote ahead of the sum. Where there is too little, it reads as if there were only what is there.
type reader struct{ rest string }

func (r *reader) value() api.Value {
	v := api.Value{Kind: r.number(1)}
	text := r.text
	switch v.Kind {
	case api.KindText:
		v.Text = text()
	case api.KindHash:
		v.Pairs = row(r.many(), r.pair)
	case api.KindSet:
		fallthrough // It is written as a list is.
	case api.KindList:
		v.Items = row(r.many(), text)
	case api.KindPoint:
		v.Point = api.Point{Re: r.part(), Im: r.part()}
	}
	return v
}

// row is what next tells in n calls.
func row[T any](n int, next func() T) []T {
	var all []T
	for range n {
		all = append(all, next())
	}
	return all
}

// many is how many things follow. More than MaxItems are no value's, and so need not be read.
func (r *reader) many() int { return min(r.number(2), api.MaxItems) }

func (r *reader) pair() api.Pair { return api.Pair{Name: r.text(), Value: r.text()} }

func (r *reader) text() string { return r.take(r.number(2)) }

// part is a point's: the number of 32 bits whose highest one is the sign.
func (r *reader) part() int { return int(int32(r.number(4))) }

// number is one of so many bytes, the highest first.
func (r *reader) number(bytes int) int {
	n := 0
	for _, b := range []byte(r.take(bytes)) {
		n = n<<8 | int(b)
	}
	return n
}

// take are the next n bytes, or all that are left.
func (r *reader) take(n int) string {
	n = min(n, len(r.rest))
	taken := r.rest[:n]
	r.rest = r.rest[n:]
	return taken
}
