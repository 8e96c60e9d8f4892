package packet

import (
	"math"
	"strconv"
	"strings"
	"testing"

	"marshalyard/api"
)

// chance is a row of numbers that look like chance, the same at every run.
type chance uint64

func (c *chance) next() uint64 {
	*c = *c*6364136223846793005 + 1442695040888963407
	return uint64(*c)>>32 ^ uint64(*c)<<31
}

func (c *chance) below(n int) int { return int(c.next() >> 1 % uint64(n)) }

// slots are those for which is holds.
func slots(is func(n int) bool) api.Bits {
	var b api.Bits
	for n := range api.Slots {
		if is(n) {
			b[n/64] |= 1 << (n % 64)
		}
	}
	return b
}

func these(l ...int) api.Bits {
	var b api.Bits
	for _, n := range l {
		b[n/64] |= 1 << (n % 64)
	}
	return b
}

func all() api.Bits { return slots(func(int) bool { return true }) }

func everySecond() api.Bits { return slots(func(n int) bool { return n%2 == 0 }) }

// longest are the slots whose writing has the most bytes: found from the last slot backwards, by what is best behind each range.
func longest() api.Bits {
	digits := func(n int) int { return len(strconv.Itoa(n)) }
	const behind = 3
	var best, tail [api.Slots + behind]int   // bytes, a blank behind each range; those of a range's end and all behind it
	var end, tailEnd [api.Slots + behind]int // where the range that begins here ends, or -1
	for n := api.Slots - 1; n >= 0; n-- {
		// tail[n]: a range may end at n or later.
		tail[n], tailEnd[n] = digits(n)+1+best[n+2], n
		if n+1 < api.Slots && tail[n+1] > tail[n] {
			tail[n], tailEnd[n] = tail[n+1], tailEnd[n+1]
		}
		best[n], end[n] = best[n+1], -1
		if one := digits(n) + 1 + best[n+2]; one > best[n] {
			best[n], end[n] = one, n
		}
		if n+1 < api.Slots {
			if more := digits(n) + 1 + tail[n+1]; more > best[n] {
				best[n], end[n] = more, tailEnd[n+1]
			}
		}
	}
	var b api.Bits
	for n := 0; n < api.Slots; {
		if end[n] < 0 {
			n++
			continue
		}
		for i := n; i <= end[n]; i++ {
			b[i/64] |= 1 << (i % 64)
		}
		n = end[n] + 2
	}
	return b
}

func claims() []api.Bits {
	l := []api.Bits{
		{}, all(), everySecond(), longest(),
		these(0), these(5), these(9), these(10), these(63), these(64), these(12182), these(16383),
		these(0, 16383), these(3, 4, 5, 9), these(63, 64), these(62, 64), these(9, 10, 99, 100, 999, 1000, 9999, 10000),
		slots(func(n int) bool { return n%2 == 1 }),
		slots(func(n int) bool { return n%3 != 2 }),
		slots(func(n int) bool { return n > 0 }),
		slots(func(n int) bool { return n < api.Slots-1 }),
		slots(func(n int) bool { return n >= 5461 && n < 10923 }),
		slots(func(n int) bool { return n/64%2 == 0 }),
	}
	for i := range 8 {
		c := chance(i)
		l = append(l, slots(func(int) bool { return c.below(1<<i) == 0 }))
	}
	return l
}

var edgeKinds = []int{math.MinInt, -256, -255, -1, 0, 1, 2, 3, 4, 5, 6, 255, 256, 257, 258, 259, 260, 1<<32 + 1, math.MaxInt}

var edgeNodes = []int{math.MinInt, math.MinInt + 1, -256, -255, -64, -1, 0, 1, 2, 62, 63, 64, 65, 127, 128, 255, 256, 257, 1 << 32, 1<<32 + 1, math.MaxInt}

var edgeEpochs = []uint64{0, 1, 2, 255, 256, 1<<32 - 1, 1 << 32, 1 << 62, 1<<62 + 1, 1<<63 - 1, 1 << 63, math.MaxUint64 - 1, math.MaxUint64}

func TestRightAndEncodeAtTheEdges(t *testing.T) {
	for _, kind := range edgeKinds {
		for _, from := range edgeNodes {
			for _, of := range edgeNodes {
				checkPacket(t, api.Packet{Kind: kind, From: from, Of: of, Epoch: 2, Current: 3})
				checkPacket(t, api.Packet{Kind: kind, From: from, Of: of, Epoch: 3, Current: 2})
			}
		}
	}
	for kind := range 6 {
		for _, epoch := range edgeEpochs {
			for _, current := range edgeEpochs {
				checkPacket(t, api.Packet{Kind: kind, From: 7, Epoch: epoch, Current: current, Claims: these(1, 2)})
			}
		}
	}
}

// The bounds, told by hand.
func TestWhatMayBe(t *testing.T) {
	const most = math.MaxUint64
	for _, p := range []api.Packet{
		{Kind: api.Ping}, {Kind: api.Pong}, {Kind: api.Update}, {Kind: api.Meet},
		{Kind: api.Ping, From: api.MaxNodes - 1}, {Kind: api.Meet, From: api.MaxNodes - 1},
		{Kind: api.Update, From: api.MaxNodes - 1, Of: api.MaxNodes - 1}, {Kind: api.Update, Of: 1}, {Kind: api.Update, From: 1, Of: 0}, {Kind: api.Update, From: 1, Of: 1},
		{Kind: api.Ping, Epoch: 1, Current: 1}, {Kind: api.Ping, Epoch: 1, Current: 2}, {Kind: api.Pong, Current: most},
		{Kind: api.Update, Epoch: most, Current: most}, {Kind: api.Meet, Epoch: most - 1, Current: most},
		{Kind: api.Ping, Claims: all()}, {Kind: api.Update, Of: 63, Claims: everySecond()},
	} {
		if !Right(p) {
			t.Errorf("P14.1: %s is Right", brief(p))
		}
	}
	for _, p := range []api.Packet{
		{}, {Kind: -1}, {Kind: 5}, {Kind: 257}, {Kind: math.MinInt}, {Kind: math.MaxInt},
		{Kind: api.Ping, From: -1}, {Kind: api.Pong, From: api.MaxNodes}, {Kind: api.Update, From: -1}, {Kind: api.Update, From: api.MaxNodes}, {Kind: api.Meet, From: 256},
		{Kind: api.Update, Of: -1}, {Kind: api.Update, Of: api.MaxNodes}, {Kind: api.Update, Of: 256},
		{Kind: api.Ping, Of: 1}, {Kind: api.Pong, Of: api.MaxNodes - 1}, {Kind: api.Meet, Of: -1}, {Kind: api.Ping, Of: 256}, {Kind: api.Meet, From: 1, Of: 1},
		{Kind: api.Ping, Epoch: 1}, {Kind: api.Pong, Epoch: 3, Current: 2}, {Kind: api.Update, Epoch: most, Current: most - 1}, {Kind: api.Meet, Epoch: 1 << 63, Current: 1<<63 - 1},
		{Kind: api.Ping, From: 64, Claims: all()},
	} {
		if Right(p) {
			t.Errorf("P14.1: %s is not Right", brief(p))
		}
		if s, e := Encode(p); s != "" || e != api.ErrPacketForm {
			t.Errorf("P14.2: Encode(%s): %x, %d", brief(p), s, e)
		}
	}
}

// Writings, told by hand, byte by byte.
func TestWritings(t *testing.T) {
	cases := []struct {
		p    api.Packet
		want string
	}{
		{api.Packet{Kind: api.Ping, From: 1, Epoch: 2, Current: 3, Claims: these(5)},
			"010100" + "0000000000000002" + "0000000000000003" + "0001" + "35" + "70df"},
		{api.Packet{Kind: api.Pong},
			"020000" + "0000000000000000" + "0000000000000000" + "0000" + "bbcd"},
		{api.Packet{Kind: api.Meet, From: 63, Epoch: math.MaxUint64, Current: math.MaxUint64, Claims: all()},
			"043f00" + "ffffffffffffffff" + "ffffffffffffffff" + "0007" + "302d3136333833" + "767a"},
		{api.Packet{Kind: api.Update, From: 5, Of: 63, Epoch: 0x0102030405060708, Current: 0x1122334455667788, Claims: these(0, 3, 4, 5, 9, 16382, 16383)},
			"03053f" + "0102030405060708" + "1122334455667788" + "0013" + "3020332d3520392031363338322d3136333833" + "46c7"},
	}
	for _, c := range cases {
		s, e := Encode(c.p)
		if hexOf(s) != c.want || e != api.OK {
			t.Errorf("P14.2: Encode(%s): %x, %d, not %s", brief(c.p), s, e, c.want)
		}
		if p, e := Decode(s); p != c.p || e != api.OK {
			t.Errorf("P14.3: Decode(%x): %s, %d", s, brief(p), e)
		}
	}
}

// The counts of long claims, told by hand: the higher byte counts.
func TestLongClaims(t *testing.T) {
	cases := []struct {
		what  string
		b     api.Bits
		count int
	}{
		// 5, 45, 450, 4500 and 3192 numbers of one digit to five, and a blank between each two.
		{"every second slot", everySecond(), 5 + 90 + 1350 + 18000 + 15960 + 8191},
		// Mostly pairs of slots with one left out between them.
		{"the longest", longest(), 58129},
	}
	for _, c := range cases {
		s, e := Encode(api.Packet{Kind: api.Ping, Claims: c.b})
		if e != api.OK || len(s) != c.count+23 || s[19:21] != two(c.count) {
			t.Errorf("P14.2: %s: %d, %d bytes, not %d; count %x", c.what, e, len(s), c.count+23, s[19:21])
		}
		if s[21:len(s)-2] != plainClaims(&c.b) {
			t.Errorf("P14.2: %s: other claims are written", c.what)
		}
	}
}

func ptr(b api.Bits) *api.Bits { return &b }

func TestEveryKindWithEveryClaims(t *testing.T) {
	for i, b := range claims() {
		for kind := api.Ping; kind <= api.Meet; kind++ {
			p := api.Packet{Kind: kind, From: i, Epoch: uint64(i), Current: uint64(2 * i), Claims: b}
			if kind == api.Update {
				p.Of = 63 - i
			}
			checkPacket(t, p)
		}
	}
	for n := range api.Slots {
		if n < 300 || n%61 == 0 || n > api.Slots-300 {
			checkPacket(t, api.Packet{Kind: api.Pong, Claims: these(n)})
		}
	}
}

// Each byte of Epoch and of Current by itself.
func TestEachByteOfTheEpochs(t *testing.T) {
	for i := range 8 {
		for x := range uint64(256) {
			n := x << (8 * i)
			checkPacket(t, api.Packet{Kind: api.Ping, Epoch: n, Current: n})
			checkPacket(t, api.Packet{Kind: api.Ping, Current: n})
			checkPacket(t, api.Packet{Kind: api.Ping, Epoch: n, Current: math.MaxUint64})
		}
	}
}

// samples are writings of some length, of each Kind.
func samples() []string {
	var l []string
	for _, p := range []api.Packet{
		{Kind: api.Pong},
		{Kind: api.Ping, From: 1, Epoch: 2, Current: 3, Claims: these(5)},
		{Kind: api.Update, From: 63, Of: 62, Epoch: 1 << 62, Current: 1<<62 + 1, Claims: these(3, 4, 5, 9)},
		{Kind: api.Meet, From: 9, Epoch: math.MaxUint64, Current: math.MaxUint64, Claims: all()},
		{Kind: api.Ping, From: 2, Claims: slots(func(n int) bool { return n%100 == 0 })},
	} {
		l = append(l, withSum(plainBody(p)))
	}
	return l
}

func TestCutWritings(t *testing.T) {
	for _, s := range samples() {
		for i := range len(s) {
			checkRefused(t, "P14.3: cut", s[:i])
			if i > 0 {
				checkRefused(t, "P14.3: cut at the front", s[i:])
			}
			checkBody(t, s[:i]) // With the sum of what is left.
		}
	}
}

// Sum of a writing is 0: with bytes 0 behind it, it has the right sum still.
func TestBytesAheadAndBehind(t *testing.T) {
	for _, s := range samples() {
		for x := range 256 {
			checkRefused(t, "P14.3: a byte behind", s+string([]byte{byte(x)}))
			checkRefused(t, "P14.3: a byte ahead", string([]byte{byte(x)})+s)
			checkBody(t, s+string([]byte{byte(x)}))
		}
		for n := 1; n < 70; n++ {
			checkRefused(t, "P14.3: bytes 0 behind", s+strings.Repeat("\x00", n))
			checkRefused(t, "P14.3: bytes 0 ahead", strings.Repeat("\x00", n)+s)
		}
		for _, other := range samples() {
			checkRefused(t, "P14.3: two writings", s+other)
		}
		checkRefused(t, "P14.3: many bytes behind", s+strings.Repeat("\x00", 1<<16))
		checkRefused(t, "P14.3: many bytes behind", s+strings.Repeat("\x00", 1<<20))
	}
}

func TestTextsThatAreTooShort(t *testing.T) {
	checkRefused(t, "P14.3: empty", "")
	for n := range 23 {
		for x := range 256 {
			checkRefused(t, "P14.3: short", strings.Repeat(string([]byte{byte(x)}), n))
			checkRefused(t, "P14.3: short, with its sum", withSum(strings.Repeat(string([]byte{byte(x)}), max(n-2, 0))))
			checkRefused(t, "P14.3: short, with a Kind", withSum(string([]byte{byte(x)})+strings.Repeat("\x00", max(n-3, 0))))
		}
	}
	if _, e := Decode(withSum("\x01" + strings.Repeat("\x00", 20))); e != api.OK {
		t.Errorf("P14.3: the shortest packet, of 23 bytes: %d", e)
	}
}

// turn turns the bit i of b: counted from the highest bit of each byte, or from the lowest.
func turn(b []byte, i int, lowest bool) {
	if lowest {
		b[i/8] ^= 1 << (i % 8)
	} else {
		b[i/8] ^= 0x80 >> (i % 8)
	}
}

// checkTurns turns bits whose first one is first, and whose others are chosen among the fifteen behind it, by each step-th choice.
func checkTurns(t *testing.T, s string, first, step int, lowest bool) {
	t.Helper()
	what := "P14.4: bits turned of " + hexOf(s[:min(len(s), 30)])
	behind := min(15, 8*len(s)-1-first)
	for mask := 0; mask < 1<<behind; mask += step {
		b := []byte(s)
		turn(b, first, lowest)
		for i := range behind {
			if mask>>i&1 != 0 {
				turn(b, first+1+i, lowest)
			}
		}
		checkRefused(t, what, string(b))
	}
}

func TestEachBitTurned(t *testing.T) {
	for _, s := range append(samples(), withSum(plainBody(api.Packet{Kind: api.Ping, Claims: slots(func(n int) bool { return n%16 == 0 })}))) {
		for i := range 8 * len(s) {
			b := []byte(s)
			turn(b, i, true)
			checkRefused(t, "P14.4: a bit turned", string(b))
		}
	}
}

func TestBitsTurnedWithinSixteen(t *testing.T) {
	for k, s := range samples()[:4] {
		// All choices for one writing; for the others many of them.
		step := 1
		if k != 1 {
			step = 41
		}
		for first := range 8 * len(s) {
			checkTurns(t, s, first, step, false)
			checkTurns(t, s, first, max(step, 7), true)
		}
	}
}

// Bits of a long writing, at places of chance, and all sixteen at once.
func TestBitsTurnedOfLongWritings(t *testing.T) {
	c := chance(14)
	for _, b := range []api.Bits{everySecond(), longest()} {
		s := withSum(plainBody(api.Packet{Kind: api.Update, From: 3, Of: 4, Epoch: 5, Current: 6, Claims: b}))
		for range 40 {
			checkTurns(t, s, c.below(8*len(s)), 1<<14-1, c.below(2) == 0)
		}
		for i := range 24 { // The head, the count and the sum.
			checkTurns(t, s, 8*i, 1<<14-1, false)
			checkTurns(t, s, 8*(len(s)-1-i), 1<<14-1, true)
		}
	}
}

// Each byte of a writing is each other one, with the sum put right.
func TestEveryByteOfABody(t *testing.T) {
	taken := 0
	for _, s := range samples()[:4] {
		for i := range len(s) - 2 {
			for x := range 256 {
				b := []byte(s[:len(s)-2])
				b[i] = byte(x)
				if checkBody(t, string(b)) {
					taken++
				}
			}
		}
	}
	if taken < 1000 {
		t.Errorf("only %d bodies were packets'", taken)
	}
}

func TestEveryKindFromAndOf(t *testing.T) {
	tail := eight(2) + eight(3) + counted("5")
	for kind := range 256 {
		for _, from := range []int{0, 1, 63, 64, 128, 255} {
			for _, of := range []int{0, 1, 63, 64, 128, 255} {
				body := string([]byte{byte(kind), byte(from), byte(of)}) + tail
				want := 1 <= kind && kind <= 4 && from < 64 && (of == 0 || kind == 3 && of < 64)
				if checkBody(t, body) != want {
					t.Fatalf("P14.3: Kind %d, From %d, Of %d: %v", kind, from, of, !want)
				}
			}
		}
	}
}

func TestEpochsOfABody(t *testing.T) {
	for _, epoch := range edgeEpochs {
		for _, current := range edgeEpochs {
			if is := checkBody(t, "\x02\x01\x00"+eight(epoch)+eight(current)+counted("1-2")); is != (epoch <= current) {
				t.Fatalf("P14.3: Epoch %d, Current %d: %v", epoch, current, is)
			}
		}
	}
}

func TestEveryCount(t *testing.T) {
	first := head(api.Packet{Kind: api.Ping, From: 1, Epoch: 2, Current: 3})
	for _, text := range []string{"", "5", "3-5 9"} {
		for n := range 1 << 16 {
			if is := checkBody(t, first+two(n)+text); is != (n == len(text)) {
				t.Fatalf("P14.3: the count %d ahead of %q: %v", n, text, is)
			}
		}
	}
	long := plainClaims(ptr(longest()))
	for _, n := range []int{0, 1, len(long) - 256, len(long) - 1, len(long), len(long) + 1, len(long) + 256, 1<<16 - 1} {
		if is := checkBody(t, first+two(n)+long); is != (n == len(long)) {
			t.Fatalf("P14.3: the count %d ahead of %d bytes: %v", n, len(long), is)
		}
	}
	// What is longer than a count can tell, by just what the count leaves out.
	checkRefused(t, "P14.3: too long", withSum(first+two(1)+"5"+strings.Repeat(" ", 1<<16)))
}

func TestClaimsThatAreNotWrittenSo(t *testing.T) {
	first := head(api.Packet{Kind: api.Update, From: 1, Of: 2, Epoch: 2, Current: 3})
	for _, text := range []string{
		"9 3", "5-6 1-2", "1 1", "1-3 2-4", "1-3 3", "0-16383 0", // not in order
		"1 2", "1-2 3", "1 2-3", "1-2 3-4", "3-4 5 9", "16382 16383", // not joined
		"1-1", "0-0", "16383-16383", "2-1", "16383-0", // no range
		"00", "05", "05-6", "5-06", "1 03", "016383", "-0", "+5", "5-+6", "00000", // zeros, signs ahead
		" ", " 5", "5 ", "5  7", "5 - 6", "5- 6", "5\t7", "5\n", "5,7", "\x005", "5\x00", // blanks, and what is none
		"16384", "-1", "0-16384", "16383-16384", "99999", "65536", "18446744073709551616", "18446744073709551621", "9223372036854775808", // out of range
		"-", "5-", "-5", "5-6-7", "5--6", "a", "5a", "0x5", "1_0", "1e1", "5.", "٣", "\xff", "{5}",
	} {
		if checkBody(t, first+counted(text)) {
			t.Errorf("P14.3: the claims %q were taken", text)
		}
	}
	for _, text := range []string{"", "0", "5", "16383", "0-1", "0-16383", "1-2 4-5", "3-5 9", "9-10", "99-100 102"} {
		if !checkBody(t, first+counted(text)) {
			t.Errorf("P14.3: the claims %q were not taken", text)
		}
	}
}

// All texts of up to five of some bytes as claims.
func TestAllShortClaims(t *testing.T) {
	first := head(api.Packet{Kind: api.Ping})
	taken := 0
	var grow func(text string)
	grow = func(text string) {
		if checkBody(t, first+counted(text)) {
			taken++
		}
		if len(text) == 5 {
			return
		}
		for _, x := range []byte("0129- +") {
			grow(text + string([]byte{x}))
		}
	}
	grow("")
	if taken < 100 {
		t.Errorf("only %d claims were taken", taken)
	}
}

// Packets of chance, and their writings with bytes of chance put in, taken out, and changed, the sum put right.
func TestPacketsOfChance(t *testing.T) {
	c := chance(4)
	for range 4000 {
		p := api.Packet{Kind: c.below(6), From: c.below(66) - 1, Epoch: c.next() >> c.below(64), Current: c.next() >> c.below(64)}
		if p.Kind == api.Update || c.below(8) == 0 {
			p.Of = c.below(66) - 1
		}
		on, thin := false, c.below(3000)+2
		p.Claims = slots(func(int) bool {
			if c.below(thin) == 0 {
				on = !on
			}
			return on
		})
		checkPacket(t, p)
		if !plainRight(p) {
			continue
		}
		b := []byte(plainBody(p))
		for range c.below(3) + 1 {
			at := c.below(len(b))
			switch c.below(3) {
			case 0:
				b[at] = byte(c.next())
			case 1:
				b = append(b[:at], b[at+1:]...)
			case 2:
				b = append(b[:at], append([]byte{"0123456789- "[c.below(12)]}, b[at:]...)...)
			}
		}
		checkBody(t, string(b))
	}
}

// Bytes of chance, with their sum right and without.
func TestBytesOfChance(t *testing.T) {
	c := chance(5)
	for range 100000 {
		b := make([]byte, c.below(60))
		for i := range b {
			b[i] = byte(c.next() >> 7)
		}
		s := string(b)
		checkBody(t, s)
		if p, e := Decode(s); e != api.OK && (e != api.ErrPacketForm || p != api.Packet{}) {
			t.Fatalf("P14.3: Decode(%x): %s, %d", s, brief(p), e)
		}
	}
}

// What is told is the caller's own, and the same calls tell the same.
func TestNothingIsKept(t *testing.T) {
	p := api.Packet{Kind: api.Ping, From: 1, Epoch: 2, Current: 3, Claims: these(5)}
	was := p
	s, _ := Encode(p)
	if p != was {
		t.Errorf("R5: Encode changed the packet to %s", brief(p))
	}
	q, _ := Decode(s)
	q.Claims = all()
	again, e := Decode(s)
	if again != p || e != api.OK {
		t.Errorf("R6: Decode tells %s, %d the second time", brief(again), e)
	}
	Encode(api.Packet{Kind: api.Meet, Claims: all()})
	Decode("x")
	if other, _ := Encode(p); other != s {
		t.Errorf("R7: Encode tells %x the second time, not %x", other, s)
	}
}
