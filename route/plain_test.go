package route

import (
	"math/big"
	"regexp"
	"slices"
	"strings"
	"testing"

	"marshalyard/api"
)

// The plain model: the chapter's sentences, word by word.

// sentence is one of the chapter's: what becomes of a case for which it holds.
type sentence struct {
	holds bool
	told  api.Decision
}

// plainDecide is the first of the sentences that holds. A list that is too short has its missing ones as false, and what it has too much is cut off.
func plainDecide(c Case) api.Decision {
	n := len(c.Slots)
	if n == 0 {
		return api.Decision{Kind: 1}
	}
	s := c.Slots[0]
	here := append(slices.Clone(c.Here), make([]bool, n)...)[:n]
	held := append(slices.Clone(c.Held), make([]bool, n)...)[:n]
	someHere, someNot, someHeld := slices.Contains(here, true), slices.Contains(here, false), slices.Contains(held, true)
	oneSlot := len(slices.Compact(slices.Clone(c.Slots))) == 1
	self := c.Owner == c.Self
	asks := c.Importing > -1 && c.Asking > 0 && c.Asking == c.Token
	for _, x := range []sentence{
		{!oneSlot, api.Decision{Kind: 5, Slot: s}},
		{self && someHeld, api.Decision{Kind: 4, Slot: s}},
		{self && c.Migrating < 0, api.Decision{Kind: 1, Slot: s}},
		{self && !someNot, api.Decision{Kind: 1, Slot: s}},
		{self && someHere && someNot, api.Decision{Kind: 4, Slot: s}},
		{self, api.Decision{Kind: 3, Slot: s, Node: c.Migrating, Token: c.Token}},
		{asks && someHeld, api.Decision{Kind: 4, Slot: s}},
		{asks && n >= 2 && someNot, api.Decision{Kind: 4, Slot: s}},
		{asks, api.Decision{Kind: 1, Slot: s}},
		{c.Owner < 0, api.Decision{Kind: 6, Slot: s}},
	} {
		if x.holds {
			return x.told
		}
	}
	return api.Decision{Kind: 2, Slot: s, Node: c.Owner}
}

// plainText writes in decimal by numbers without bounds.
func plainText(d api.Decision) string {
	slot, node, token := big.NewInt(int64(d.Slot)).String(), big.NewInt(int64(d.Node)).String(), big.NewInt(int64(d.Token)).String()
	texts := map[int]string{
		2: "MOVED " + slot + " " + node,
		3: "ASK " + slot + " " + node + " " + token,
		4: "TRYAGAIN",
		5: "CROSSSLOT",
		6: "CLUSTERDOWN",
	}
	return texts[d.Kind]
}

var (
	movedForm = regexp.MustCompile(`\AMOVED (0|[1-9][0-9]*) (0|[1-9][0-9]*)\z`)
	askForm   = regexp.MustCompile(`\AASK (0|[1-9][0-9]*) (0|[1-9][0-9]*) (0|[1-9][0-9]*)\z`)
)

func plainRead(s string) (api.Decision, bool) {
	if kind := slices.Index([]string{"TRYAGAIN", "CROSSSLOT", "CLUSTERDOWN"}, s); kind >= 0 {
		return api.Decision{Kind: 4 + kind}, true
	}
	kind, parts := 2, movedForm.FindStringSubmatch(s)
	if parts == nil {
		kind, parts = 3, askForm.FindStringSubmatch(s)
	}
	if parts == nil {
		return api.Decision{}, false
	}
	var numbers [3]int
	for i, part := range parts[1:] {
		n, is := new(big.Int).SetString(part, 10)
		if !is || n.Cmp([]*big.Int{big.NewInt(16383), big.NewInt(63), big.NewInt(9223372036854775807)}[i]) > 0 {
			return api.Decision{}, false
		}
		numbers[i] = int(n.Int64())
	}
	return api.Decision{Kind: kind, Slot: numbers[0], Node: numbers[1], Token: numbers[2]}, true
}

// checkDecide holds a case against the model, and looks whether its lists stayed as they were.
func checkDecide(t *testing.T, c Case) {
	t.Helper()
	want := plainDecide(c)
	slots, here, held := slices.Clone(c.Slots), slices.Clone(c.Here), slices.Clone(c.Held)
	for range 2 { // The same calls tell the same.
		if got := Decide(c); got != want {
			t.Fatalf("P17.1: Decide(%+v): %+v, not %+v", c, got, want)
		}
	}
	if !slices.Equal(slots, c.Slots) || !slices.Equal(here, c.Here) || !slices.Equal(held, c.Held) {
		t.Fatalf("P17.1: Decide changed %+v", c)
	}
}

func checkText(t *testing.T, d api.Decision) {
	t.Helper()
	if got, want := Text(d), plainText(d); got != want {
		t.Fatalf("P17.2: Text(%+v): %q, not %q", d, got, want)
	}
}

func checkRead(t *testing.T, s string) {
	t.Helper()
	got, is := Read(s)
	if want, wantIs := plainRead(s); got != want || is != wantIs {
		t.Fatalf("P17.2: Read(%s): %+v, %v, not %+v, %v", brief(s), got, is, want, wantIs)
	}
}

// brief is a text that may be long, for a message.
func brief(s string) string {
	if len(s) > 80 {
		s = s[:80] + ".."
	}
	return `"` + strings.ReplaceAll(s, "\n", `\n`) + `"`
}
