package bus

import (
	"slices"
	"strconv"
	"strings"
	"testing"

	"marshalyard/api"
	"marshalyard/view"
)

// The plain model: the chapter's sentences, and those on packets and views that they stand on, word by word, without any other layer.

// plain is a bus: who owns each slot (-1: nobody), what epoch each node has, and what has gone out.
type plain struct {
	self    int
	owner   []int
	epoch   []uint64
	current uint64
	outs    []Out
}

func newPlain(self int, claims api.Bits, epoch uint64) (*plain, api.Errno) {
	if self < 0 || self > 63 {
		return nil, 150
	}
	if epoch > 4611686018427387904 {
		return nil, 1
	}
	m := &plain{self: self, owner: make([]int, 16384), epoch: make([]uint64, 64), current: epoch}
	for n := range m.owner {
		m.owner[n] = -1
		if has(&claims, n) {
			m.owner[n] = self
		}
	}
	m.epoch[self] = epoch
	return m, 0
}

func (m *plain) send(to int, p api.Packet) { m.outs = append(m.outs, Out{to, written(p)}) }

// tells is Ping and Meet, by their Kind.
func (m *plain) tells(kind, to int) api.Errno {
	if to < 0 || to > 63 || to == m.self {
		return 150
	}
	m.send(to, m.tell(kind))
	return 0
}

func (m *plain) take(s string) bool {
	p, is := readBack(s)
	if !is || p.From == m.self {
		return false
	}
	for _, answer := range m.hear(p) {
		m.send(p.From, answer)
	}
	return true
}

func (m *plain) told() []Out {
	l := m.outs
	m.outs = nil
	return l
}

func (m *plain) win(slot int, least uint64) api.Errno {
	if slot < 0 || slot > 16383 || least > 4611686018427387904 {
		return 1
	}
	m.owner[slot] = m.self
	if least > m.current {
		m.current = least
	}
	m.current++
	m.epoch[m.self] = m.current
	return 0
}

func (m *plain) give(slot, node int) api.Errno {
	if slot < 0 || slot > 16383 {
		return 1
	}
	if node < 0 || node > 63 {
		return 150
	}
	m.owner[slot] = node
	return 0
}

// The sentences on views.

func (m *plain) claims(node int) api.Bits {
	var b api.Bits
	for n, owner := range m.owner {
		if owner == node {
			b[n/64] |= 1 << (n % 64)
		}
	}
	return b
}

func (m *plain) tell(kind int) api.Packet {
	return api.Packet{Kind: kind, From: m.self, Epoch: m.epoch[m.self], Current: m.current, Claims: m.claims(m.self)}
}

func (m *plain) hear(p api.Packet) []api.Packet {
	n := p.From
	if p.Kind == 3 {
		n = p.Of
	}
	if p.Current > 4611686018427387904 || n == m.self {
		return nil
	}
	m.current = max(m.current, p.Current)
	if !(p.Epoch < m.epoch[n]) {
		m.epoch[n] = p.Epoch
		for s, owner := range m.owner {
			claimed := has(&p.Claims, s)
			switch {
			case owner == n && !claimed:
				m.owner[s] = -1
			case claimed && (owner == -1 || m.epoch[owner] < p.Epoch):
				m.owner[s] = n
			}
		}
	}
	if p.Kind == 3 {
		return nil
	}
	if p.Epoch == m.epoch[m.self] && m.self < n {
		m.current++
		m.epoch[m.self] = m.current
	}
	var l []api.Packet
	if p.Kind != 2 {
		l = append(l, m.tell(2))
	}
	for s, o := range m.owner {
		if has(&p.Claims, s) && o != -1 && o != n && m.epoch[o] > p.Epoch {
			return append(l, api.Packet{Kind: 3, From: m.self, Of: o, Epoch: m.epoch[o], Current: m.current, Claims: m.claims(o)})
		}
	}
	return l
}

// The sentences on packets.

func has(b *api.Bits, n int) bool { return b[n/64]>>(n%64)&1 == 1 }

func plainRight(p api.Packet) bool {
	of := p.Of == 0
	if p.Kind == 3 {
		of = p.Of >= 0 && p.Of <= 63
	}
	return of && p.Kind >= 1 && p.Kind <= 4 && p.From >= 0 && p.From <= 63 && p.Epoch <= p.Current
}

// written is the writing of a packet, with its sum right, whether the packet itself is right or not.
func written(p api.Packet) string {
	claims := claimsText(&p.Claims)
	return withSum(string([]byte{byte(p.Kind), byte(p.From), byte(p.Of)}) + eight(p.Epoch) + eight(p.Current) + two(len(claims)) + claims)
}

// readBack is the packet that is written so; false, if none is.
func readBack(s string) (api.Packet, bool) {
	if len(s) < 23 {
		return api.Packet{}, false
	}
	p := api.Packet{Kind: int(s[0]), From: int(s[1]), Of: int(s[2])}
	for i := range 8 {
		p.Epoch = p.Epoch<<8 | uint64(s[3+i])
		p.Current = p.Current<<8 | uint64(s[11+i])
	}
	for _, part := range strings.Fields(s[21 : len(s)-2]) {
		first, last, isRange := strings.Cut(part, "-")
		if !isRange {
			last = first
		}
		from, _ := strconv.Atoi(first)
		to, _ := strconv.Atoi(last)
		for n := max(from, 0); n <= min(to, 16383); n++ {
			p.Claims[n/64] |= 1 << (n % 64)
		}
	}
	if !plainRight(p) || written(p) != s {
		return api.Packet{}, false
	}
	return p, true
}

func two(n int) string { return string([]byte{byte(n / 256), byte(n % 256)}) }

func eight(n uint64) string {
	b := make([]byte, 8)
	for i := 7; i >= 0; i-- {
		b[i] = byte(n % 256)
		n /= 256
	}
	return string(b)
}

// withSum divides bit by bit.
func withSum(s string) string {
	c := 0
	for i := range len(s) {
		for bit := 7; bit >= 0; bit-- {
			c = c<<1 ^ int(s[i])>>bit&1<<16
			if c&0x10000 != 0 {
				c ^= 0x11021
			}
		}
	}
	return s + two(c)
}

func claimsText(b *api.Bits) string {
	var l []string
	for n := 0; n < 16384; n++ {
		if !has(b, n) {
			continue
		}
		from := n
		for n < 16383 && has(b, n+1) {
			n++
		}
		if from == n {
			l = append(l, strconv.Itoa(n))
		} else {
			l = append(l, strconv.Itoa(from)+"-"+strconv.Itoa(n))
		}
	}
	return strings.Join(l, " ")
}

// checkSees holds a view against what the model sees.
func checkSees(t *testing.T, what string, v *view.View, m *plain) {
	t.Helper()
	if v == nil {
		t.Fatalf("%s: no view", what)
	}
	if v.Self() != m.self || v.Current() != m.current {
		t.Fatalf("%s: Self %d, Current %d, not %d, %d", what, v.Self(), v.Current(), m.self, m.current)
	}
	for node, epoch := range m.epoch {
		if v.Epoch(node) != epoch {
			t.Fatalf("%s: Epoch(%d): %d, not %d", what, node, v.Epoch(node), epoch)
		}
	}
	for n, owner := range m.owner {
		if v.Owner(n) != owner {
			t.Fatalf("%s: Owner(%d): %d, not %d", what, n, v.Owner(n), owner)
		}
	}
}

// checkOuts holds what has gone out against a row, byte by byte.
func checkOuts(t *testing.T, what string, got, want []Out) {
	t.Helper()
	for i := range max(len(got), len(want)) {
		switch {
		case i >= len(got):
			t.Fatalf("%s: %d went out; there is none %s", what, i, brief(want[i]))
		case i >= len(want):
			t.Fatalf("%s: one too many went out, at %d: %s", what, i, brief(got[i]))
		case got[i] != want[i]:
			t.Fatalf("%s: at %d went out %s, not %s", what, i, brief(got[i]), brief(want[i]))
		}
	}
}

// checkBoth holds all that a bus tells, its view and what has gone out, against the model.
func checkBoth(t *testing.T, what string, b *Bus, m *plain) {
	t.Helper()
	checkSees(t, what, b.View(), m)
	checkOuts(t, what, b.Outs(), m.told())
	checkSees(t, what+", behind Outs", b.View(), m)
}

// brief tells an Out as the packet that it is of.
func brief(o Out) string {
	s := "to " + strconv.Itoa(o.To) + ": "
	p, is := readBack(o.Bytes)
	if !is {
		return s + "no packet, " + strconv.Quote(o.Bytes[:min(len(o.Bytes), 60)])
	}
	claims := claimsText(&p.Claims)
	return s + "Kind " + strconv.Itoa(p.Kind) + ", From " + strconv.Itoa(p.From) + ", Of " + strconv.Itoa(p.Of) +
		", Epoch " + strconv.FormatUint(p.Epoch, 10) + ", Current " + strconv.FormatUint(p.Current, 10) + ", Claims " + claims[:min(len(claims), 60)]
}

func (m *plain) clone() *plain {
	c := *m
	c.owner, c.epoch, c.outs = slices.Clone(m.owner), slices.Clone(m.epoch), slices.Clone(m.outs)
	return &c
}
