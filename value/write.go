package value

import "marshalyard/api"

// appendValue writes all of a Right value but the sum: its counts and lengths fit into two bytes.
func appendValue(b []byte, v api.Value) []byte {
	b = append(b, byte(v.Kind))
	switch v.Kind {
	case api.KindText:
		b = appendText(b, v.Text)
	case api.KindHash:
		b = appendNumber(b, 2, len(v.Pairs))
		for _, p := range v.Pairs {
			b = appendText(appendText(b, p.Name), p.Value)
		}
	case api.KindList, api.KindSet:
		b = appendNumber(b, 2, len(v.Items))
		for _, s := range v.Items {
			b = appendText(b, s)
		}
	case api.KindPoint:
		b = appendNumber(b, 4, v.Point.Re)
		b = appendNumber(b, 4, v.Point.Im)
	}
	return b
}

func appendText(b []byte, s string) []byte {
	return append(appendNumber(b, 2, len(s)), s...)
}

// appendNumber writes so many of n's lowest bytes, the highest first.
func appendNumber(b []byte, bytes, n int) []byte {
	for i := bytes - 1; i >= 0; i-- {
		b = append(b, byte(n>>(8*i)))
	}
	return b
}
