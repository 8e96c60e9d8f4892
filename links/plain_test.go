package links

import (
	"fmt"
	"slices"
	"strings"
	"testing"

	"marshalyard/api"
)

// The plain model: one list of all that is on its way, as it was sent. Letters stand in it as texts, which nobody writes into.

type sent struct {
	from, to int
	text     string
}

type plain struct{ way []sent }

func (m *plain) send(from, to int, x api.Letter) {
	m.way = append(slices.Clip(m.way), sent{from, to, written(x)})
}

// next is the first letter's text, or that of a zero one.
func (m *plain) next(from, to int) (string, bool) {
	for i, s := range m.way {
		if s.from == from && s.to == to {
			m.way = slices.Concat(m.way[:i], m.way[i+1:])
			return s.text, true
		}
	}
	return written(api.Letter{}), false
}

func (m *plain) waiting(from, to int) int {
	many := 0
	for _, s := range m.way {
		if s.from == from && s.to == to {
			many++
		}
	}
	return many
}

// pairs puts each pair ahead of the first that is above it.
func (m *plain) pairs() [][2]int {
	var l [][2]int
	for _, s := range m.way {
		i := 0
		for i < len(l) && (l[i][0] < s.from || l[i][0] == s.from && l[i][1] < s.to) {
			i++
		}
		if p := [2]int{s.from, s.to}; i == len(l) || l[i] != p {
			l = slices.Insert(l, i, p)
		}
	}
	return l
}

func (m *plain) clone() *plain { return &plain{slices.Clone(m.way)} }

// written is all that is in a letter, unlike letters unlike; an empty list is as good as none.
func written(x api.Letter) string {
	return fmt.Sprintf("%d %d %d %d %+q %+q %+q %s %t %d", x.Kind, x.Number, x.Slot, x.Ends, x.Key, x.Text, x.Args, writtenReply(x.Reply), x.Good, x.Asking)
}

func writtenReply(r api.Reply) string {
	var l []string
	for _, x := range r.List {
		l = append(l, writtenReply(x))
	}
	return fmt.Sprintf("{%d %d %+q %s}", r.Kind, r.Int, r.Text, l)
}

// spoil writes into all lists of a letter, and behind their ends as far as their memory goes.
func spoil(x api.Letter) {
	args := x.Args[:cap(x.Args)]
	for i := range args {
		args[i] = "spoilt"
	}
	spoilList(x.Reply.List)
}

func spoilList(l []api.Reply) {
	l = l[:cap(l)]
	for i := range l {
		spoilList(l[i].List)
		l[i] = api.Reply{Kind: -1, Int: -1, Text: "spoilt", List: []api.Reply{{}}}
	}
}

// checkNext takes the first letter of a link, and of the model's, and then spoils what was told.
func checkNext(t *testing.T, what string, l *Links, m *plain, from, to int) {
	t.Helper()
	x, is := l.Next(from, to)
	text, want := m.next(from, to)
	if is != want || written(x) != text {
		t.Fatalf("%s: Next(%d, %d): %s, %v, not %s, %v", what, from, to, brief(written(x)), is, brief(text), want)
	}
	spoil(x)
}

func brief(s string) string {
	if len(s) > 200 {
		return s[:200] + ".."
	}
	return s
}

// checkPairs holds Pairs against the model's, and spoils what was told; Waiting of each pair there, and of some where nothing needs be.
func checkPairs(t *testing.T, what string, l *Links, m *plain, some ...[2]int) {
	t.Helper()
	got, want := l.Pairs(), m.pairs()
	if !slices.Equal(got, want) {
		t.Fatalf("%s: Pairs: %v, not %v", what, got, want)
	}
	for i := range got {
		got[i] = [2]int{-7, -7}
	}
	for _, p := range append(want, some...) {
		if n, many := l.Waiting(p[0], p[1]), m.waiting(p[0], p[1]); n != many {
			t.Fatalf("%s: Waiting(%d, %d): %d, not %d", what, p[0], p[1], n, many)
		}
	}
}

// checkRest takes all that is on its way, link by link, and once more of each.
func checkRest(t *testing.T, what string, l *Links, m *plain) {
	t.Helper()
	for _, p := range m.pairs() {
		for range m.waiting(p[0], p[1]) + 1 {
			checkNext(t, what, l, m, p[0], p[1])
		}
	}
	checkPairs(t, what, l, m)
}

// chance is a row of numbers that look like chance, the same at every run.
type chance uint64

func (c *chance) below(n int) int {
	*c = *c*6364136223846793005 + 1442695040888963407
	return int(uint64(*c) >> 33 % uint64(n))
}

func (c *chance) text() string { return strings.Repeat(string(rune(c.below(256))), c.below(4)) }

// list is one of up to most things; none, and an empty one, each now and then.
func list[T any](c *chance, most int, one func() T) []T {
	n := c.below(most + 2)
	if n == most+1 {
		return nil
	}
	l := make([]T, 0, n+c.below(3))
	for range n {
		l = append(l, one())
	}
	return l
}

func (c *chance) reply(depth int) api.Reply {
	r := api.Reply{Kind: c.below(8), Int: c.below(9) - 4, Text: c.text()}
	if depth > 0 {
		r.List = list(c, 3, func() api.Reply { return c.reply(depth - 1) })
	}
	return r
}

func (c *chance) letter() api.Letter {
	return api.Letter{
		Kind: c.below(6), Number: c.below(99) - 49, Slot: c.below(api.Slots), Ends: c.below(api.MaxTime),
		Key: c.text(), Text: c.text(), Args: list(c, 4, c.text), Reply: c.reply(c.below(4)), Good: c.below(2) == 1, Asking: c.below(9) - 2,
	}
}
