package packet

import (
	"strconv"
	"strings"
	"testing"

	"marshalyard/api"
)

// The plain model: the chapter's sentences word by word, without any other layer.

func plainRight(p api.Packet) bool {
	switch {
	case p.Kind != 1 && p.Kind != 2 && p.Kind != 3 && p.Kind != 4:
		return false
	case p.From < 0 || p.From > 63:
		return false
	case p.Kind == 3 && (p.Of < 0 || p.Of > 63):
		return false
	case p.Kind != 3 && p.Of != 0:
		return false
	}
	return p.Epoch <= p.Current
}

// plainSum divides bit by bit.
func plainSum(s string) int {
	c := 0
	for i := range len(s) {
		for bit := 7; bit >= 0; bit-- {
			c = c<<1 ^ int(s[i])>>bit&1<<16
			if c&0x10000 != 0 {
				c ^= 0x11021
			}
		}
	}
	return c
}

func two(n int) string { return string([]byte{byte(n / 256), byte(n % 256)}) }

func eight(n uint64) string {
	b := make([]byte, 8)
	for i := 7; i >= 0; i-- {
		b[i] = byte(n % 256)
		n /= 256
	}
	return string(b)
}

func withSum(body string) string { return body + two(plainSum(body)) }

func plainHas(b *api.Bits, n int) bool { return b[n/64]>>(n%64)&1 == 1 }

func plainClaims(b *api.Bits) string {
	var l []string
	for n := 0; n < 16384; n++ {
		if !plainHas(b, n) {
			continue
		}
		last := n
		for last < 16383 && plainHas(b, last+1) {
			last++
		}
		if s := strconv.Itoa(n); last == n {
			l = append(l, s)
		} else {
			l = append(l, s+"-"+strconv.Itoa(last))
		}
		n = last
	}
	return strings.Join(l, " ")
}

// head are the first 19 bytes: all ahead of the count.
func head(p api.Packet) string {
	return string([]byte{byte(p.Kind), byte(p.From), byte(p.Of)}) + eight(p.Epoch) + eight(p.Current)
}

func counted(s string) string { return two(len(s)) + s }

// plainBody is all of a writing but the sum.
func plainBody(p api.Packet) string { return head(p) + counted(plainClaims(&p.Claims)) }

// plainSlots are the slots of a text that is read as it comes; what plainClaims writes otherwise is none's.
func plainSlots(s string) (api.Bits, bool) {
	var b api.Bits
	for _, part := range strings.Fields(s) {
		first, last, two := strings.Cut(part, "-")
		if !two {
			last = first
		}
		from, e1 := strconv.Atoi(first)
		to, e2 := strconv.Atoi(last)
		if e1 != nil || e2 != nil || from < 0 || to > 16383 {
			return api.Bits{}, false
		}
		for n := from; n <= to; n++ {
			b[n/64] |= 1 << (n % 64)
		}
	}
	return b, plainClaims(&b) == s
}

// plainRead reads a body strictly, place by place; false, if it is none's.
func plainRead(body string) (api.Packet, bool) {
	if len(body) < 21 {
		return api.Packet{}, false
	}
	long := func(s string) uint64 {
		n, _ := strconv.ParseUint(hexOf(s), 16, 64)
		return n
	}
	p := api.Packet{Kind: int(body[0]), From: int(body[1]), Of: int(body[2]), Epoch: long(body[3:11]), Current: long(body[11:19])}
	if int(body[19])*256+int(body[20]) != len(body)-21 {
		return api.Packet{}, false
	}
	claims, is := plainSlots(body[21:])
	p.Claims = claims
	if !is || !plainRight(p) {
		return api.Packet{}, false
	}
	return p, true
}

func hexOf(s string) string {
	var b strings.Builder
	for _, x := range []byte(s) {
		b.WriteByte("0123456789abcdef"[x/16])
		b.WriteByte("0123456789abcdef"[x%16])
	}
	return b.String()
}

func brief(p api.Packet) string {
	return "Kind " + strconv.Itoa(p.Kind) + ", From " + strconv.Itoa(p.From) + ", Of " + strconv.Itoa(p.Of) +
		", Epoch " + strconv.FormatUint(p.Epoch, 10) + ", Current " + strconv.FormatUint(p.Current, 10) + ", Claims " + short(plainClaims(&p.Claims))
}

func short(s string) string { return strconv.Quote(s[:min(len(s), 60)]) }

// checkPacket holds all calls of one packet against the plain model.
func checkPacket(t *testing.T, p api.Packet) {
	t.Helper()
	is := plainRight(p)
	if Right(p) != is {
		t.Fatalf("P14.1: Right(%s): %v", brief(p), !is)
	}
	s, e := Encode(p)
	if !is {
		if s != "" || e != api.ErrPacketForm {
			t.Fatalf("P14.2: Encode(%s): %x, %d", brief(p), s, e)
		}
		return
	}
	if want := withSum(plainBody(p)); s != want || e != api.OK {
		t.Fatalf("P14.2: Encode(%s): %x, %d, not %x", brief(p), s, e, want)
	}
	if q, e := Decode(s); q != p || e != api.OK {
		t.Fatalf("P14.4: Decode of the writing of %s: %s, %d", brief(p), brief(q), e)
	}
}

// checkRefused tells that Decode takes s for no packet's writing, and tells no packet.
func checkRefused(t *testing.T, what, s string) {
	t.Helper()
	if p, e := Decode(s); p != (api.Packet{}) || e != api.ErrPacketForm {
		t.Fatalf("%s: Decode(%.80x): %s, %d", what, s, brief(p), e)
	}
}

// checkBody holds Decode of a body with its sum right against the plain reader; it tells whether it is a packet's.
func checkBody(t *testing.T, body string) bool {
	t.Helper()
	want, is := plainRead(body)
	if !is {
		checkRefused(t, "P14.3: "+short(body), withSum(body))
		return false
	}
	p, e := Decode(withSum(body))
	if p != want || e != api.OK {
		t.Fatalf("P14.3: Decode of %x with its sum: %s, %d, not %s", body, brief(p), e, brief(want))
	}
	if s, e := Encode(p); s != withSum(body) || e != api.OK {
		t.Fatalf("P14.3: Encode of what Decode of %x told: %x, %d", body, s, e)
	}
	return true
}
