package crc

import (
	"bytes"
	"testing"
)

// bitwise is P1.1 as its words say it, bit by bit: what More is held against.
func bitwise(c uint16, b []byte) uint16 {
	for _, x := range b {
		c ^= uint16(x) << 8
		for range 8 {
			if c&0x8000 != 0 {
				c = c<<1 ^ 0x1021
			} else {
				c <<= 1
			}
		}
	}
	return c
}

// noise is n bytes that look like chance and are the same at every run.
func noise(n int, seed uint32) []byte {
	b := make([]byte, n)
	for i := range b {
		seed = seed*1664525 + 1013904223
		b[i] = byte(seed >> 24)
	}
	return b
}

func texts() [][]byte {
	l := [][]byte{
		nil,
		{},
		{0},
		{0, 0, 0},
		{0xff},
		{0xff, 0xff, 0xff},
		{0x80, 0, 1},
		[]byte("a"),
		[]byte("foo"),
		[]byte("123456789"),
		[]byte("a{b}c{d}\r\n"),
	}
	for n := range 40 {
		l = append(l, noise(n, uint32(n)))
	}
	return append(l, noise(5000, 77))
}

func join(a, b []byte) []byte {
	return append(append([]byte{}, a...), b...)
}

func TestSumExamples(t *testing.T) {
	cases := []struct {
		text string
		want uint16
	}{
		{"123456789", 0x31c3},
		{"", 0},
		{"foo", 0xaf96},
		{"\x01", 0x1021},
		{"\x00", 0},
	}
	for _, c := range cases {
		if got := Sum([]byte(c.text)); got != c.want {
			t.Errorf("P1.1: Sum(%q) is %04x, want %04x", c.text, got, c.want)
		}
	}
	if got := Sum(nil); got != 0 {
		t.Errorf("P1.1: Sum(nil) is %04x", got)
	}
}

func TestSumIsMoreOfZero(t *testing.T) {
	for _, b := range texts() {
		if got, want := Sum(b), More(0, b); got != want {
			t.Errorf("P1.1: Sum(%x) is %04x, More(0, ..) %04x", b, got, want)
		}
	}
}

func TestMoreOfNothing(t *testing.T) {
	for c := range 1 << 16 {
		if More(uint16(c), nil) != uint16(c) || More(uint16(c), []byte{}) != uint16(c) {
			t.Fatalf("P1.1: More(%04x, nothing) is another one", c)
		}
	}
}

// Every sum, gone on with every byte: all that one round of More can meet.
func TestMoreOfEveryByte(t *testing.T) {
	for x := range 1 << 8 {
		b := []byte{byte(x)}
		for c := range 1 << 16 {
			if got, want := More(uint16(c), b), bitwise(uint16(c), b); got != want {
				t.Fatalf("P1.1: More(%04x, %x) is %04x, want %04x", c, b, got, want)
			}
		}
	}
}

func TestMoreOfTexts(t *testing.T) {
	for _, b := range texts() {
		for _, c := range []uint16{0, 1, 7, 0x1021, 0x7fff, 0x8000, 0xffff} {
			if got, want := More(c, b), bitwise(c, b); got != want {
				t.Fatalf("P1.1: More(%04x, %x) is %04x, want %04x", c, b, got, want)
			}
		}
	}
}

func TestMoreGoesOnAtEveryCut(t *testing.T) {
	for _, b := range texts() {
		want := bitwise(0, b)
		for i := range len(b) + 1 {
			if got := More(Sum(b[:i]), b[i:]); got != want {
				t.Fatalf("P1.2: %x cut at %d: %04x, want %04x", b, i, got, want)
			}
		}
	}
	for _, a := range texts() {
		for _, b := range texts() {
			if got, want := Sum(join(a, b)), More(Sum(a), b); got != want {
				t.Fatalf("P1.2: %x with %x behind it: %04x, want %04x", a, b, got, want)
			}
		}
	}
}

func TestZerosAheadAreNotSeen(t *testing.T) {
	for _, b := range texts() {
		for _, n := range []int{1, 2, 3, 16, 255, 256, 1000} {
			if got, want := Sum(join(make([]byte, n), b)), Sum(b); got != want {
				t.Fatalf("P1.2: %d bytes 0 ahead of %x: %04x, want %04x", n, b, got, want)
			}
		}
	}
	if Sum([]byte("a\x00")) == Sum([]byte("a")) {
		t.Error("P1.1: a byte 0 behind a text is seen")
	}
}

func TestSumOfXor(t *testing.T) {
	for n := range 300 {
		a, b := noise(n, uint32(n)), noise(n, uint32(n+1000))
		x := make([]byte, n)
		for i := range x {
			x[i] = a[i] ^ b[i]
		}
		if got, want := Sum(x), Sum(a)^Sum(b); got != want {
			t.Fatalf("P1.2: %x xored with %x: %04x, want %04x", a, b, got, want)
		}
	}
}

func withSum(b []byte) []byte {
	c := Sum(b)
	return join(b, []byte{byte(c >> 8), byte(c)})
}

func TestTextWithItsSumBehind(t *testing.T) {
	for _, b := range texts() {
		if got := Sum(withSum(b)); got != 0 {
			t.Fatalf("P1.3: %x with its sum behind it: %04x", b, got)
		}
	}
	if Sum([]byte("123456789\x31\xc3")) != 0 {
		t.Error("P1.3: 123456789 with 31c3 behind it is not 0")
	}
	if Sum([]byte("123456789\xc3\x31")) == 0 {
		t.Error("P1.3: the lower byte first is 0 too")
	}
}

// turn turns the bit i of b: counted from the highest bit of each byte, or from the lowest.
func turn(b []byte, i int, lowest bool) {
	if lowest {
		b[i/8] ^= 1 << (i % 8)
	} else {
		b[i/8] ^= 0x80 >> (i % 8)
	}
}

func TestTurnedBitsAreSeen(t *testing.T) {
	for _, b := range [][]byte{{0}, {0xff}, []byte("ab"), []byte("foo"), withSum([]byte("foo"))} {
		for _, lowest := range []bool{false, true} {
			checkTurns(t, b, lowest)
		}
	}
}

// checkTurns turns all choices of bits whose first one is at each place in turn, and whose others are among the fifteen behind it.
func checkTurns(t *testing.T, b []byte, lowest bool) {
	want := Sum(b)
	for first := range 8 * len(b) {
		behind := min(15, 8*len(b)-1-first)
		for mask := range 1 << behind {
			x := bytes.Clone(b)
			turn(x, first, lowest)
			for i := range behind {
				if mask>>i&1 != 0 {
					turn(x, first+1+i, lowest)
				}
			}
			if Sum(x) == want {
				t.Fatalf("P1.3: %x turned to %x: the sum is the same", b, x)
			}
		}
	}
}

func TestTurnedBitsOfLongTextAreSeen(t *testing.T) {
	b := noise(300, 5)
	want := Sum(b)
	for i := range len(b) - 1 {
		for m := 1; m < 1<<16; m += 97 {
			b[i], b[i+1] = b[i]^byte(m>>8), b[i+1]^byte(m)
			got := Sum(b)
			b[i], b[i+1] = b[i]^byte(m>>8), b[i+1]^byte(m)
			if got == want {
				t.Fatalf("P1.3: %04x turned at %d: the sum is the same", m, i)
			}
		}
	}
}

func TestWhatIsHandedInStays(t *testing.T) {
	for _, b := range texts() {
		room := append(join(b, []byte("behind")), make([]byte, 8)...)
		was := bytes.Clone(room)
		part := room[:len(b)]
		first, again := Sum(part), Sum(part)
		if first != again || More(9, part) != More(9, part) {
			t.Errorf("R7: %x is summed to something else the second time", b)
		}
		if !bytes.Equal(room, was) {
			t.Errorf("R5: %x was changed to %x", was, room)
		}
	}
}

// What is written into a text behind its sum changes no later sum.
func TestNothingIsKept(t *testing.T) {
	b := []byte("foo")
	Sum(b)
	b[0] = 'b'
	if got, want := Sum([]byte("foo")), uint16(0xaf96); got != want {
		t.Errorf("R6: Sum(foo) is %04x, want %04x", got, want)
	}
	if got, want := Sum(b), bitwise(0, []byte("boo")); got != want {
		t.Errorf("R6: Sum(boo) is %04x, want %04x", got, want)
	}
}
