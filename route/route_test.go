package route

import (
	"math"
	"strconv"
	"strings"
	"testing"

	"marshalyard/api"
)

// chance is a row of numbers that look like chance, the same at every run.
type chance uint64

func (c *chance) next() uint64 {
	*c = *c*6364136223846793005 + 1442695040888963407
	return uint64(*c)>>32 ^ uint64(*c)<<31
}

func (c *chance) below(n int) int { return int(c.next() >> 1 % uint64(n)) }

func oneOf[T any](c *chance, l ...T) T { return l[c.below(len(l))] }

// rows are all lists of up to most things of some, nil among them.
func rows[T any](most int, of ...T) [][]T {
	all := [][]T{nil}
	for from := 0; most > 0; most-- {
		behind := len(all)
		for _, l := range all[from:behind] {
			for _, x := range of {
				all = append(all, append(append([]T{}, l...), x))
			}
		}
		from = behind
	}
	return all
}

// cases goes through all cases with those lists, and with numbers of these.
func cases(slots [][]int, marks [][]bool, selves, nodes, tokens []int, do func(c Case)) {
	for _, self := range selves {
		for _, owner := range nodes {
			for _, migrating := range nodes {
				for _, importing := range nodes {
					for _, token := range tokens {
						for _, asking := range tokens {
							c := Case{Self: self, Owner: owner, Migrating: migrating, Importing: importing, Token: token, Asking: asking}
							for _, c.Slots = range slots {
								for _, c.Here = range marks {
									for _, c.Held = range marks {
										do(c)
									}
								}
							}
						}
					}
				}
			}
		}
	}
}

const yes, no = true, false

func TestRowsAreAll(t *testing.T) {
	if l := rows(3, no, yes); len(l) != 1+2+4+8 || l[0] != nil || len(l[14]) != 3 {
		t.Error("the cases that are tried are not all:", l)
	}
}

// The chapter's examples, and those of the whole document that are of this layer.
func TestExamples(t *testing.T) {
	for i, x := range []struct {
		c    Case
		want api.Decision
	}{
		{Case{Self: 1, Owner: 2, Migrating: -1, Importing: -1, Slots: []int{9}}, api.Decision{Kind: api.Moved, Slot: 9, Node: 2}},
		{Case{Self: 1, Owner: 1, Migrating: 3, Importing: -1, Slots: []int{9, 9}, Here: []bool{yes, no}}, api.Decision{Kind: api.Again, Slot: 9}},
		{Case{Self: 1, Owner: 1, Migrating: -1, Importing: -1, Slots: []int{9, 8}}, api.Decision{Kind: api.Cross, Slot: 9}},
		{Case{Self: 1, Owner: 1, Migrating: 2, Importing: -1, Token: 7, Slots: []int{12182}, Here: []bool{yes}, Held: []bool{yes}}, api.Decision{Kind: api.Again, Slot: 12182}},
		{Case{Self: 1, Owner: 1, Migrating: 2, Importing: -1, Token: 7, Slots: []int{12182}, Here: []bool{no}}, api.Decision{Kind: api.Ask, Slot: 12182, Node: 2, Token: 7}},
		{Case{Self: 2, Owner: 1, Migrating: -1, Importing: 1, Token: 8, Asking: 7, Slots: []int{12182}}, api.Decision{Kind: api.Moved, Slot: 12182, Node: 1}},
	} {
		if got := Decide(x.c); got != x.want {
			t.Errorf("example %d: %+v, not %+v", i, got, x.want)
		}
	}
}

// Each sentence of the chapter at its edges, against what is written here.
func TestDecideAtTheEdges(t *testing.T) {
	d := func(kind int, more ...int) api.Decision { // Slot, Node, Token.
		more = append(more, 0, 0, 0)
		return api.Decision{Kind: kind, Slot: more[0], Node: more[1], Token: more[2]}
	}
	one, two, three := []int{5}, []int{5, 5}, []int{5, 5, 5}
	for i, x := range []struct {
		c    Case
		want api.Decision
	}{
		// No key: whatever else is said.
		{Case{}, d(api.Serve)},
		{Case{Self: 1, Owner: 1, Migrating: 3, Importing: 2, Token: 7, Asking: 7, Here: []bool{yes, no}, Held: []bool{yes}}, d(api.Serve)},
		{Case{Self: 1, Owner: -1, Migrating: -1, Importing: -1, Slots: []int{}}, d(api.Serve)},
		// Keys of unlike slots: ahead of all that follows; the slot is that of the first key.
		{Case{Self: 1, Owner: 1, Migrating: -1, Importing: -1, Slots: []int{5, 6}, Here: []bool{yes, yes}}, d(api.Cross, 5)},
		{Case{Self: 1, Owner: -1, Migrating: -1, Importing: -1, Slots: []int{5, 5, 6}}, d(api.Cross, 5)},
		{Case{Self: 1, Owner: 1, Migrating: 3, Importing: 2, Token: 7, Asking: 7, Slots: []int{6, 5, 6}, Held: []bool{yes}}, d(api.Cross, 6)},
		{Case{Self: 1, Owner: 2, Migrating: -1, Importing: -1, Slots: []int{0, 16383}}, d(api.Cross)},
		// It owns the slot.
		{Case{Self: 1, Owner: 1, Migrating: -1, Importing: -1, Slots: one}, d(api.Serve, 5)},
		{Case{Self: 0, Owner: 0, Migrating: -1, Importing: -1, Slots: one}, d(api.Serve, 5)},
		{Case{Self: 1, Owner: 1, Migrating: -1, Importing: -1, Slots: two, Here: []bool{yes, no}}, d(api.Serve, 5)},
		{Case{Self: 1, Owner: 1, Migrating: -2, Importing: -1, Slots: two, Here: []bool{no, yes}}, d(api.Serve, 5)},
		{Case{Self: 1, Owner: 1, Migrating: -1, Importing: -1, Slots: one, Held: []bool{yes}}, d(api.Again, 5)},
		{Case{Self: 1, Owner: 1, Migrating: -1, Importing: -1, Slots: two, Here: []bool{yes, yes}, Held: []bool{no, yes}}, d(api.Again, 5)},
		{Case{Self: 1, Owner: 1, Migrating: 0, Importing: -1, Token: 7, Slots: one}, d(api.Ask, 5, 0, 7)},
		{Case{Self: 1, Owner: 1, Migrating: 0, Importing: -1, Token: 7, Slots: one, Here: []bool{yes}}, d(api.Serve, 5)},
		{Case{Self: 1, Owner: 1, Migrating: 3, Importing: -1, Token: 7, Slots: one, Here: []bool{no}, Held: []bool{yes}}, d(api.Again, 5)},
		{Case{Self: 1, Owner: 1, Migrating: 3, Importing: -1, Token: 7, Slots: two}, d(api.Ask, 5, 3, 7)},
		{Case{Self: 1, Owner: 1, Migrating: 3, Importing: -1, Token: 7, Slots: three, Here: []bool{no, no, yes}}, d(api.Again, 5)},
		{Case{Self: 1, Owner: 1, Migrating: 3, Importing: -1, Token: 7, Slots: three, Here: []bool{yes, yes, yes}}, d(api.Serve, 5)},
		{Case{Self: 1, Owner: 1, Migrating: 3, Importing: 2, Token: 7, Asking: 7, Slots: one}, d(api.Ask, 5, 3, 7)},
		{Case{Self: 1, Owner: 1, Migrating: 1, Importing: -1, Token: -7, Slots: one}, d(api.Ask, 5, 1, -7)},
		// Here and Held too short, and too long.
		{Case{Self: 1, Owner: 1, Migrating: 3, Importing: -1, Token: 7, Slots: two, Here: []bool{yes}}, d(api.Again, 5)},
		{Case{Self: 1, Owner: 1, Migrating: 3, Importing: -1, Token: 7, Slots: two, Here: []bool{no}}, d(api.Ask, 5, 3, 7)},
		{Case{Self: 1, Owner: 1, Migrating: 3, Importing: -1, Token: 7, Slots: two, Here: []bool{no, no, yes}}, d(api.Ask, 5, 3, 7)},
		{Case{Self: 1, Owner: 1, Migrating: 3, Importing: -1, Token: 7, Slots: two, Here: []bool{yes, yes, no}}, d(api.Serve, 5)},
		{Case{Self: 1, Owner: 1, Migrating: 3, Importing: -1, Token: 7, Slots: two, Here: []bool{yes, no, yes}}, d(api.Again, 5)},
		{Case{Self: 1, Owner: 1, Migrating: -1, Importing: -1, Slots: one, Held: []bool{no, yes}}, d(api.Serve, 5)},
		{Case{Self: 1, Owner: 2, Migrating: -1, Importing: 2, Token: 7, Asking: 7, Slots: one, Held: []bool{no, yes}}, d(api.Serve, 5)},
		{Case{Self: 1, Owner: 2, Migrating: -1, Importing: 2, Token: 7, Asking: 7, Slots: two, Here: []bool{no, yes, yes}}, d(api.Again, 5)},
		// It asks here.
		{Case{Self: 1, Owner: 2, Migrating: -1, Importing: 0, Token: 7, Asking: 7, Slots: one}, d(api.Serve, 5)},
		{Case{Self: 1, Owner: -1, Migrating: -1, Importing: 2, Token: 7, Asking: 7, Slots: one, Here: []bool{yes}}, d(api.Serve, 5)},
		{Case{Self: 1, Owner: 2, Migrating: 3, Importing: 2, Token: 1, Asking: 1, Slots: two, Here: []bool{yes, yes}}, d(api.Serve, 5)},
		{Case{Self: 1, Owner: 2, Migrating: -1, Importing: 2, Token: 7, Asking: 7, Slots: one, Here: []bool{yes}, Held: []bool{yes}}, d(api.Again, 5)},
		{Case{Self: 1, Owner: 2, Migrating: -1, Importing: 2, Token: 7, Asking: 7, Slots: two, Here: []bool{yes, yes}, Held: []bool{no, yes}}, d(api.Again, 5)},
		{Case{Self: 1, Owner: 2, Migrating: -1, Importing: 2, Token: 7, Asking: 7, Slots: two}, d(api.Again, 5)},
		{Case{Self: 1, Owner: 2, Migrating: -1, Importing: 2, Token: 7, Asking: 7, Slots: two, Here: []bool{no, yes}}, d(api.Again, 5)},
		{Case{Self: 1, Owner: 2, Migrating: -1, Importing: 2, Token: 7, Asking: 7, Slots: three, Here: []bool{yes, yes}}, d(api.Again, 5)},
		// It does not: no move, no token, or another one.
		{Case{Self: 1, Owner: 2, Migrating: -1, Importing: -1, Token: 7, Asking: 7, Slots: one}, d(api.Moved, 5, 2)},
		{Case{Self: 1, Owner: 2, Migrating: -1, Importing: 2, Slots: one, Here: []bool{yes}}, d(api.Moved, 5, 2)},
		{Case{Self: 1, Owner: 2, Migrating: -1, Importing: 2, Token: -7, Asking: -7, Slots: one, Here: []bool{yes}}, d(api.Moved, 5, 2)},
		{Case{Self: 1, Owner: 2, Migrating: -1, Importing: 2, Token: 7, Asking: 8, Slots: one}, d(api.Moved, 5, 2)},
		{Case{Self: 1, Owner: 2, Migrating: -1, Importing: 2, Token: 7, Asking: 6, Slots: one}, d(api.Moved, 5, 2)},
		{Case{Self: 1, Owner: 2, Migrating: -1, Importing: 2, Token: 7, Slots: one, Held: []bool{yes}}, d(api.Moved, 5, 2)},
		{Case{Self: 1, Owner: 0, Migrating: 3, Importing: -1, Slots: two, Here: []bool{yes, no}}, d(api.Moved, 5, 0)},
		{Case{Self: 1, Owner: -1, Migrating: -1, Importing: -1, Slots: one}, d(api.Down, 5)},
		{Case{Self: 1, Owner: -9, Migrating: 3, Importing: 2, Token: 7, Asking: 8, Slots: two, Here: []bool{yes, yes}, Held: []bool{yes}}, d(api.Down, 5)},
		// Numbers that are nobody's stay what they are.
		{Case{Self: 1, Owner: math.MaxInt, Migrating: -1, Importing: -1, Slots: []int{-3}}, d(api.Moved, -3, math.MaxInt)},
		{Case{Self: 1, Owner: 1, Migrating: 99, Importing: -1, Token: math.MinInt, Slots: []int{math.MaxInt}}, d(api.Ask, math.MaxInt, 99, math.MinInt)},
		{Case{Self: 1, Owner: math.MinInt, Migrating: -1, Importing: -1, Slots: []int{math.MinInt}}, d(api.Down, math.MinInt)},
		{Case{Self: -1, Owner: -1, Migrating: -1, Importing: -1, Slots: one}, d(api.Serve, 5)},
	} {
		if got := Decide(x.c); got != x.want {
			t.Errorf("P17.1: %d: Decide(%+v): %+v, not %+v", i, x.c, got, x.want)
		}
		checkDecide(t, x.c)
	}
}

func TestDecideAllSmallCases(t *testing.T) {
	check := func(c Case) { checkDecide(t, c) }
	cases(rows(2, 5, 6), rows(3, no, yes), []int{1}, []int{-2, -1, 0, 1, 2}, []int{-1, 0, 1, 2}, check)
	cases(rows(3, 0, 3), rows(4, no, yes), []int{2}, []int{-1, 2, 3}, []int{0, 7}, check)
	cases([][]int{nil, {5}, {5, 5}}, rows(1, no, yes), []int{-1, 0, 1, 64}, []int{math.MinInt, -1, 0, 1, 63, 64, math.MaxInt}, []int{math.MinInt, -1, 0, 1, math.MaxInt}, check)
}

func TestDecideOfManyKeys(t *testing.T) {
	c := chance(17)
	marks := func(keys int) []bool {
		l := make([]bool, max(0, keys+oneOf(&c, 0, 0, 0, 0, -1, 1, 5, -keys)))
		all := oneOf(&c, no, yes)
		for i := range l {
			l[i] = all
		}
		for range oneOf(&c, 0, 0, 1, 2) {
			if len(l) > 0 {
				l[c.below(len(l))] = !all
			}
		}
		return l
	}
	for range 30000 {
		keys := oneOf(&c, 1, 2, 3, 31, 40, 1000)
		slots := make([]int, keys)
		slot := oneOf(&c, 0, 1, 12182, 16383)
		for i := range slots {
			slots[i] = slot
		}
		if c.below(4) == 0 {
			slots[c.below(keys)] = oneOf(&c, 0, 1, 16383)
		}
		checkDecide(t, Case{
			Self: oneOf(&c, 0, 1, 63), Owner: oneOf(&c, -1, 0, 1, 63), Migrating: oneOf(&c, -1, 0, 2), Importing: oneOf(&c, -1, 0, 2),
			Token: oneOf(&c, 0, 7, 8), Asking: oneOf(&c, 0, 7, 8), Slots: slots, Here: marks(keys), Held: marks(keys),
		})
	}
}

var edgeNumbers = []int{math.MinInt, -16384, -10, -2, -1, 0, 1, 9, 10, 62, 63, 64, 99, 100, 16382, 16383, 16384, 1 << 31, 1 << 40, math.MaxInt - 1, math.MaxInt}

func TestText(t *testing.T) {
	for _, x := range []struct {
		d    api.Decision
		want string
	}{
		{api.Decision{}, ""},
		{api.Decision{Kind: api.Serve, Slot: 1, Node: 2, Token: 3}, ""},
		{api.Decision{Kind: api.Moved, Slot: 12182, Node: 2}, "MOVED 12182 2"},
		{api.Decision{Kind: api.Moved, Slot: 5, Node: 3, Token: 7}, "MOVED 5 3"},
		{api.Decision{Kind: api.Moved, Slot: -5, Node: -3, Token: -7}, "MOVED -5 -3"},
		{api.Decision{Kind: api.Moved}, "MOVED 0 0"},
		{api.Decision{Kind: api.Ask, Slot: 12182, Node: 2, Token: 7}, "ASK 12182 2 7"},
		{api.Decision{Kind: api.Ask, Slot: -1, Node: -2, Token: -3}, "ASK -1 -2 -3"},
		{api.Decision{Kind: api.Ask, Slot: 16384, Node: 64, Token: math.MaxInt}, "ASK 16384 64 9223372036854775807"},
		{api.Decision{Kind: api.Ask, Token: math.MinInt}, "ASK 0 0 -9223372036854775808"},
		{api.Decision{Kind: api.Again, Slot: 1, Node: 2, Token: 3}, "TRYAGAIN"},
		{api.Decision{Kind: api.Cross, Slot: 1, Node: 2, Token: 3}, "CROSSSLOT"},
		{api.Decision{Kind: api.Down, Slot: 1, Node: 2, Token: 3}, "CLUSTERDOWN"},
		{api.Decision{Kind: 7, Slot: 1, Node: 2, Token: 3}, ""},
		{api.Decision{Kind: -1, Slot: 1, Node: 2, Token: 3}, ""},
	} {
		if got := Text(x.d); got != x.want {
			t.Errorf("P17.2: Text(%+v): %q, not %q", x.d, got, x.want)
		}
	}
	for _, kind := range []int{math.MinInt, -3, -2, -1, 0, 1, 2, 3, 4, 5, 6, 7, 8, 258, 1<<32 + 2, math.MaxInt} {
		for _, slot := range edgeNumbers {
			for _, node := range edgeNumbers {
				for _, token := range edgeNumbers {
					checkText(t, api.Decision{Kind: kind, Slot: slot, Node: node, Token: token})
				}
			}
		}
	}
}

func TestReadOfRightTexts(t *testing.T) {
	for s, want := range map[string]api.Decision{
		"MOVED 0 0":                        {Kind: api.Moved},
		"MOVED 12182 2":                    {Kind: api.Moved, Slot: 12182, Node: 2},
		"MOVED 16383 63":                   {Kind: api.Moved, Slot: 16383, Node: 63},
		"ASK 0 0 0":                        {Kind: api.Ask},
		"ASK 5 10 1":                       {Kind: api.Ask, Slot: 5, Node: 10, Token: 1},
		"ASK 16383 63 9223372036854775807": {Kind: api.Ask, Slot: 16383, Node: 63, Token: math.MaxInt},
		"ASK 1 2 1099511627776":            {Kind: api.Ask, Slot: 1, Node: 2, Token: 1 << 40},
		"TRYAGAIN":                         {Kind: api.Again},
		"CROSSSLOT":                        {Kind: api.Cross},
		"CLUSTERDOWN":                      {Kind: api.Down},
	} {
		if got, is := Read(s); got != want || !is {
			t.Errorf("P17.2: Read(%q): %+v, %v", s, got, is)
		}
		if got := Text(want); got != s {
			t.Errorf("P17.2: Text(%+v): %q", want, got)
		}
	}
}

// wrongTexts are texts that Read refuses.
func wrongTexts() []string {
	l := []string{
		"", " ", "\n", "\x00", "OK", "SERVE", "REDIRECTS", "ERR syntax",
		// A number out of its bounds.
		"MOVED 16384 0", "MOVED -1 0", "MOVED 0 64", "MOVED 0 -1", "MOVED 99999999999999999999 0", "MOVED 0 99999999999999999999",
		"ASK 16384 0 0", "ASK -1 0 0", "ASK 0 64 0", "ASK 0 -1 0", "ASK 0 0 -1",
		"ASK 0 0 9223372036854775808", "ASK 0 0 18446744073709551616", "ASK 0 0 18446744073709551617", "ASK 0 0 -9223372036854775808",
		"ASK 0 0 92233720368547758070", "ASK 18446744073709551616 0 0", "ASK 0 18446744073709551616 0",
		// Another writing of a number.
		"MOVED 05 3", "MOVED 5 03", "MOVED 00 3", "MOVED +5 3", "MOVED 5 +3", "MOVED -0 3", "MOVED 5 -0", "MOVED 5. 3", "MOVED 0x5 3", "MOVED 1_0 3", "MOVED 1e1 3", "MOVED a 3", "MOVED 5 b",
		"ASK 5 3 07", "ASK 5 3 00", "ASK 5 3 +7", "ASK 5 3 -0", "ASK 5 3 7a", "ASK 5 3 0x7", "ASK 5 3 1_0", "ASK 5 3 \u0667", "ASK 5 3 \uff17", "MOVED \u0665 3",
		// A blank too few or too many, or another one.
		"MOVED5 3", "MOVED 53", "MOVED  5 3", "MOVED 5  3", " MOVED 5 3", "MOVED 5 3 ", "MOVED\t5 3", "MOVED 5\t3", "MOVED 5 3\n", "MOVED 5 3\r\n", "MOVED 5\u00a03", "MOVED 5,3",
		"ASK5 3 7", "ASK 53 7", "ASK 5 37", "ASK  5 3 7", "ASK 5  3 7", "ASK 5 3  7", " ASK 5 3 7", "ASK 5 3 7 ", "ASK 5 3 7\x00", "ASK 5\n3 7",
		// A number too few or too many.
		"MOVED", "MOVED ", "MOVED  ", "MOVED 5", "MOVED 5 ", "MOVED  3", "MOVED 5 3 7", "MOVED 5 3 0", "MOVED 5 3 7 9", "MOVED 5 3 7 9 1",
		"ASK", "ASK ", "ASK   ", "ASK 5", "ASK 5 3", "ASK 5 3 ", "ASK  3 7", "ASK 5  7", "ASK 5 3 7 9", "ASK 5 3 7 9 1",
		// Other letters.
		"moved 5 3", "Moved 5 3", "ask 5 3 7", "Ask 5 3 7", "MOVE 5 3", "MOVEDD 5 3", "ASKS 5 3 7", "MOVED:5 3", " 5 3", "5 3", "-MOVED 5 3",
		"tryagain", "TryAgain", "TRY AGAIN", "crossslot", "CROSSLOT", "clusterdown", "CLUSTER DOWN", "CLUSTERDOW",
	}
	for _, word := range []string{"TRYAGAIN", "CROSSSLOT", "CLUSTERDOWN"} {
		for _, more := range []string{" ", "\x00", "\n", "X", " 0", " 5 3", " 5 3 7"} {
			l = append(l, word+more)
		}
		l = append(l, " "+word, word+word, word[1:], word[:len(word)-1])
	}
	return l
}

func TestReadOfWrongTexts(t *testing.T) {
	for _, s := range wrongTexts() {
		if d, is := Read(s); is || d != (api.Decision{}) {
			t.Errorf("P17.2: Read(%q): %+v, %v", s, d, is)
		}
		checkRead(t, s)
	}
}

// Each byte of right texts is left out, made another one, and another one is put ahead of it.
func TestReadOfTextsNearRightOnes(t *testing.T) {
	for _, s := range []string{"MOVED 16383 63", "MOVED 0 9", "ASK 16383 63 9223372036854775807", "ASK 10 0 0", "TRYAGAIN", "CROSSSLOT", "CLUSTERDOWN"} {
		for i := range len(s) + 1 {
			checkRead(t, s[:i])
			checkRead(t, s[i:])
			for b := range 256 {
				checkRead(t, s[:i]+string([]byte{byte(b)})+s[i:])
				if i < len(s) {
					checkRead(t, s[:i]+string([]byte{byte(b)})+s[i+1:])
					checkRead(t, s[:i]+s[i+1:])
				}
			}
		}
	}
}

func TestReadOfNumbersAtTheirBounds(t *testing.T) {
	var l []string
	for _, n := range edgeNumbers {
		l = append(l, strconv.Itoa(n), "0"+strconv.Itoa(n), "+"+strconv.Itoa(n))
	}
	l = append(l, "", "-", "-0", "00", "9223372036854775808", "-9223372036854775809", "18446744073709551615", "18446744073709551616")
	for _, slot := range l {
		for _, node := range l {
			checkRead(t, "MOVED "+slot+" "+node)
			for _, token := range l {
				checkRead(t, "ASK "+slot+" "+node+" "+token)
			}
		}
	}
	for n := range 20000 {
		checkRead(t, "MOVED "+strconv.Itoa(n)+" 1")
		checkRead(t, "MOVED 1 "+strconv.Itoa(n))
		checkRead(t, "ASK "+strconv.Itoa(n)+" 1 2")
		checkRead(t, "ASK 1 "+strconv.Itoa(n)+" 2")
		checkRead(t, "ASK 1 2 "+strconv.Itoa(n))
	}
}

func TestReadOfLongTexts(t *testing.T) {
	many := 1 << 16
	for _, s := range []string{
		"ASK 1 2 " + strings.Repeat("9", many), "ASK 1 2 1" + strings.Repeat("0", many), "ASK 1 2 " + strings.Repeat("0", many) + "7", "ASK " + strings.Repeat("1", many) + " 2 3",
		"MOVED 1 " + strings.Repeat("2", many), "MOVED" + strings.Repeat(" ", many), "MOVED 1 2" + strings.Repeat(" 3", many), "ASK 1 2 3" + strings.Repeat(" ", many),
		strings.Repeat(" ", many), strings.Repeat("MOVED 1 2", many/9), strings.Repeat("TRYAGAIN", many/8), "TRYAGAIN" + strings.Repeat("\x00", many),
	} {
		checkRead(t, s)
	}
}

// Texts put together by chance out of what texts are made of.
func TestReadOfTextsOfChance(t *testing.T) {
	c := chance(7)
	right := 0
	for range 300000 {
		s := oneOf(&c, "MOVED", "MOVED", "ASK", "ASK", "ASK", "TRYAGAIN", "CROSSSLOT", "CLUSTERDOWN", "MOVE", "")
		for range oneOf(&c, 0, 1, 2, 2, 2, 3, 3, 3, 4) {
			s += oneOf(&c, " ", " ", " ", " ", " ", " ", " ", " ", "", "  ")
			s += oneOf(&c, "0", "1", "5", "9", "63", "64", "12182", "16383", "16384", "9223372036854775807", "9223372036854775808", "-1", "05", "x")
		}
		if _, is := Read(s); is {
			right++
		}
		checkRead(t, s)
	}
	if right < 10000 {
		t.Errorf("just %d of the texts were right ones", right)
	}
}

func TestReadOfTextIsTheSame(t *testing.T) {
	check := func(d api.Decision) {
		if got, is := Read(Text(d)); got != d || !is {
			t.Fatalf("P17.3: Read(Text(%+v)): %+v, %v", d, got, is)
		}
	}
	for slot := range api.Slots {
		for node := range api.MaxNodes {
			check(api.Decision{Kind: api.Moved, Slot: slot, Node: node})
			if (slot+node)%5 == 0 {
				check(api.Decision{Kind: api.Ask, Slot: slot, Node: node, Token: slot * node})
				check(api.Decision{Kind: api.Ask, Slot: slot, Node: node, Token: math.MaxInt - slot*node})
			}
		}
	}
	for bit := range 63 {
		for _, token := range []int{1 << bit, 1<<bit - 1} {
			check(api.Decision{Kind: api.Ask, Slot: 1, Node: 2, Token: token})
		}
	}
	for _, kind := range []int{api.Again, api.Cross, api.Down} {
		check(api.Decision{Kind: kind})
	}
}

// Read tells no decision but one whose Text it read: every one else is refused, or loses what its text does not tell.
func TestReadOfTextOfAnyDecision(t *testing.T) {
	for kind := -1; kind <= 8; kind++ {
		for _, slot := range edgeNumbers {
			for _, node := range edgeNumbers {
				for _, token := range edgeNumbers {
					d := api.Decision{Kind: kind, Slot: slot, Node: node, Token: token}
					s := Text(d)
					checkRead(t, s)
					if got, is := Read(s); is && Text(got) != s {
						t.Fatalf("P17.3: Read(%q): %+v", s, got)
					}
				}
			}
		}
	}
}

// What Decide tells comes back by its text: the Kind, but of Serve, and whom a client is led on to.
func TestReadOfTextOfWhatIsDecided(t *testing.T) {
	kinds := map[int]int{}
	cases(rows(2, 5, 16383), rows(2, no, yes), []int{0, 1}, []int{-1, 0, 1, 63}, []int{0, 1, math.MaxInt}, func(c Case) {
		d := Decide(c)
		kinds[d.Kind]++
		want := d
		switch d.Kind {
		case api.Serve:
			want = api.Decision{}
		case api.Again, api.Cross, api.Down:
			want = api.Decision{Kind: d.Kind}
		}
		if got, is := Read(Text(d)); got != want || is != (d.Kind != api.Serve) {
			t.Fatalf("P17.3: %+v: Read(Text(%+v)): %+v, %v", c, d, got, is)
		}
	})
	for _, kind := range []int{api.Serve, api.Moved, api.Ask, api.Again, api.Cross, api.Down} {
		if kinds[kind] == 0 {
			t.Errorf("no case was decided as Kind %d", kind)
		}
	}
	if len(kinds) != 6 {
		t.Errorf("P17.1: kinds that are told: %v", kinds)
	}
}

// Where the slot is another node's, or nobody's, what is served is just what asks there, with the token of the move, while the slot comes.
func TestServedWhereTheSlotIsNotOwned(t *testing.T) {
	served := 0
	cases([][]int{{5}, {5, 5}, {5, 5, 5}}, rows(3, no, yes), []int{1}, []int{-1, 0, 1, 2}, []int{-1, 0, 1, 2}, func(c Case) {
		if c.Owner == c.Self {
			return
		}
		asks := c.Importing >= 0 && c.Asking > 0 && c.Asking == c.Token
		switch d := Decide(c); {
		case d.Kind == api.Serve:
			served++
			if !asks {
				t.Fatalf("P17.3: %+v was served", c)
			}
		case asks && (d.Kind != api.Again || len(c.Slots) == 1 && (len(c.Held) == 0 || !c.Held[0])):
			t.Fatalf("P17.3: %+v asks, and was told %+v", c, d)
		}
	})
	if served == 0 {
		t.Error("P17.3: nothing that asked was served")
	}
}
