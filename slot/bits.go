package slot

import "marshalyard/api"

const wordBits = 64

func isSlot(n int) bool {
	return 0 <= n && n < api.Slots
}

func in(b *api.Bits, n int) bool {
	return b[n/wordBits]>>(n%wordBits)&1 != 0
}

// set goes by words, not by slots, so that a long list of wide ranges is not slow.
func set(b *api.Bits, r api.Range, on bool) {
	for i := r.From / wordBits; i <= r.To/wordBits; i++ {
		if on {
			b[i] |= mask(r, i)
		} else {
			b[i] &^= mask(r, i)
		}
	}
}

// mask has the bits of word i that r covers; some of r must lie in that word.
func mask(r api.Range, i int) uint64 {
	low := max(r.From-i*wordBits, 0)
	high := min(r.To-i*wordBits, wordBits-1)
	return ^uint64(0) << low & (^uint64(0) >> (wordBits - 1 - high))
}

func ones(word uint64) int {
	n := 0
	for i := range wordBits {
		n += int(word >> i & 1)
	}
	return n
}

// firstRange is the lowest range of b, of which nothing may lie below from.
func firstRange(b *api.Bits, from int) api.Range {
	for !in(b, from) {
		from++
	}
	to := from
	for to+1 < api.Slots && in(b, to+1) {
		to++
	}
	return api.Range{From: from, To: to}
}
