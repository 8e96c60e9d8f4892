package view

import (
	"slices"
	"strconv"
	"testing"

	"marshalyard/api"
)

// The plain model: the chapter's sentences word by word, without any other layer.

// plain is a view: who owns each slot (-1: nobody), and what epoch each node has.
type plain struct {
	self    int
	owner   []int
	epoch   []uint64
	current uint64
}

func newPlain(self int, claims api.Bits, epoch uint64) (*plain, api.Errno) {
	if self < 0 || self > 63 {
		return nil, 150
	}
	if epoch > 4611686018427387904 {
		return nil, 1
	}
	m := &plain{self: self, owner: make([]int, 16384), epoch: make([]uint64, 64), current: epoch}
	for n := range m.owner {
		m.owner[n] = -1
		if has(&claims, n) {
			m.owner[n] = self
		}
	}
	m.epoch[self] = epoch
	return m, 0
}

func has(b *api.Bits, n int) bool { return b[n/64]>>(n%64)&1 == 1 }

func (m *plain) claims(node int) api.Bits {
	var b api.Bits
	for n, owner := range m.owner {
		if owner == node && node != -1 {
			b[n/64] |= 1 << (n % 64)
		}
	}
	return b
}

func (m *plain) tell(kind int) api.Packet {
	return api.Packet{Kind: kind, From: m.self, Of: 0, Epoch: m.epoch[m.self], Current: m.current, Claims: m.claims(m.self)}
}

func plainRight(p api.Packet) bool {
	if p.Kind < 1 || p.Kind > 4 || p.From < 0 || p.From > 63 || p.Epoch > p.Current {
		return false
	}
	if p.Kind == 3 {
		return p.Of >= 0 && p.Of <= 63
	}
	return p.Of == 0
}

func (m *plain) take(p api.Packet) []api.Packet {
	const ping, pong, update, meet = 1, 2, 3, 4
	if !plainRight(p) || p.Current > 4611686018427387904 || p.From == m.self || p.Kind == update && p.Of == m.self {
		return nil
	}
	n := p.From
	if p.Kind == update {
		n = p.Of
	}
	// 1.
	if p.Current > m.current {
		m.current = p.Current
	}
	// 2.
	if !(p.Epoch < m.epoch[n]) {
		m.epoch[n] = p.Epoch
		for s, owner := range m.owner {
			claimed := has(&p.Claims, s)
			switch {
			case owner == n && !claimed:
				m.owner[s] = -1
			case claimed && (owner == -1 || m.epoch[owner] < p.Epoch):
				m.owner[s] = n
			}
		}
	}
	// 3.
	if p.Kind != update && p.Epoch == m.epoch[m.self] && m.self < n {
		m.current++
		m.epoch[m.self] = m.current
	}
	// 4.
	var l []api.Packet
	if p.Kind == ping || p.Kind == meet {
		l = append(l, m.tell(pong))
	}
	if p.Kind == update {
		return l
	}
	for s, o := range m.owner {
		if has(&p.Claims, s) && o != -1 && o != n && m.epoch[o] > p.Epoch {
			l = append(l, api.Packet{Kind: update, From: m.self, Of: o, Epoch: m.epoch[o], Current: m.current, Claims: m.claims(o)})
			break
		}
	}
	return l
}

func (m *plain) win(slot int, least uint64) api.Errno {
	if slot < 0 || slot > 16383 || least > 4611686018427387904 {
		return 1
	}
	m.owner[slot] = m.self
	if least > m.current {
		m.current = least
	}
	m.current++
	m.epoch[m.self] = m.current
	return 0
}

func (m *plain) give(slot, node int) api.Errno {
	if slot < 0 || slot > 16383 {
		return 1
	}
	if node < 0 || node > 63 {
		return 150
	}
	m.owner[slot] = node
	return 0
}

func (m *plain) clone() *plain {
	c := *m
	c.owner, c.epoch = slices.Clone(m.owner), slices.Clone(m.epoch)
	return &c
}

// checkSome holds what v tells of itself, of all epochs, of some slots and of some nodes' claims against the model.
func checkSome(t *testing.T, what string, v *View, m *plain, slots, nodes []int) {
	t.Helper()
	if v.Self() != m.self || v.Current() != m.current {
		t.Fatalf("%s: Self %d, Current %d, not %d, %d", what, v.Self(), v.Current(), m.self, m.current)
	}
	for node, epoch := range m.epoch {
		if v.Epoch(node) != epoch {
			t.Fatalf("%s: Epoch(%d): %d, not %d", what, node, v.Epoch(node), epoch)
		}
	}
	for _, n := range slots {
		if v.Owner(n) != m.owner[n] {
			t.Fatalf("%s: Owner(%d): %d, not %d", what, n, v.Owner(n), m.owner[n])
		}
	}
	for _, node := range nodes {
		if got := v.Claims(node); got != m.claims(node) {
			t.Fatalf("%s: Claims(%d): %s", what, node, told(got))
		}
	}
}

// checkAll holds all that v tells against the model.
func checkAll(t *testing.T, what string, v *View, m *plain) {
	t.Helper()
	checkSome(t, what, v, m, upTo(api.Slots), upTo(api.MaxNodes))
}

// checkPackets holds a row of packets against another one.
func checkPackets(t *testing.T, what string, got, want []api.Packet) {
	t.Helper()
	if len(got) != len(want) {
		t.Fatalf("%s: %d answers, not %d", what, len(got), len(want))
	}
	for i := range got {
		if got[i] != want[i] {
			t.Fatalf("%s: the answer %d is %s, not %s", what, i, brief(got[i]), brief(want[i]))
		}
	}
}

// checkTake does Take on both, and holds the answers and a part of what is told then against each other.
func checkTake(t *testing.T, v *View, m *plain, p api.Packet) []api.Packet {
	t.Helper()
	what := "P15.3: Take(" + brief(p) + ")"
	l := v.Take(p)
	checkPackets(t, what, l, m.take(p))
	var near []int
	for _, n := range m.owner[:min(len(m.owner), 64)] {
		if n >= 0 && !slices.Contains(near, n) {
			near = append(near, n)
		}
	}
	checkSome(t, what, v, m, upTo(256), near)
	return l
}

func upTo(n int) []int {
	l := make([]int, n)
	for i := range l {
		l[i] = i
	}
	return l
}

func brief(p api.Packet) string {
	return "Kind " + strconv.Itoa(p.Kind) + ", From " + strconv.Itoa(p.From) + ", Of " + strconv.Itoa(p.Of) +
		", Epoch " + strconv.FormatUint(p.Epoch, 10) + ", Current " + strconv.FormatUint(p.Current, 10) + ", Claims " + told(p.Claims)
}

// told are the first of some slots, and how many there are.
func told(b api.Bits) string {
	s, many := "", 0
	for n := range 16384 {
		if has(&b, n) {
			many++
			if many <= 12 {
				s += strconv.Itoa(n) + " "
			}
		}
	}
	return s + "(" + strconv.Itoa(many) + ")"
}
