package links

import (
	"math"
	"reflect"
	"slices"
	"testing"

	"marshalyard/api"
)

// both are links and their model, new.
func both(t *testing.T) (*Links, *plain) {
	t.Helper()
	l := New()
	if l == nil {
		t.Fatal("P18.1: New: nil")
	}
	return l, &plain{}
}

// send sends a letter, on both; it stays as it was.
func send(t *testing.T, l *Links, m *plain, from, to int, x api.Letter) {
	t.Helper()
	m.send(from, to, x)
	was := written(x)
	l.Send(from, to, x)
	if written(x) != was {
		t.Fatalf("R5: Send(%d, %d) changed what it was given: %s, not %s", from, to, written(x), was)
	}
}

func numbered(n int) api.Letter { return api.Letter{Number: n} }

// edges are ends of all sizes; 64 to 67 and 128 are a cluster's clients and its operator.
var edges = []int{math.MinInt, math.MinInt + 1, -1 << 32, -2, -1, 0, 1, 2, 63, 64, 67, 128, 1 << 32, 1<<32 + 1, math.MaxInt - 1, math.MaxInt}

// The chapter's example.
func TestExample(t *testing.T) {
	l := New()
	x, y := api.Letter{Kind: api.LinkCall, Number: 7, Args: []string{"GET", "foo"}}, api.Letter{Kind: api.LinkDone, Key: "foo", Good: true}
	l.Send(1, 2, x)
	l.Send(1, 2, y)
	if p := l.Pairs(); !slices.Equal(p, [][2]int{{1, 2}}) {
		t.Errorf("P18.1: Pairs: %v", p)
	}
	if got, is := l.Next(1, 2); !is || !reflect.DeepEqual(got, x) {
		t.Errorf("P18.1: Next(1, 2): %+v, %v", got, is)
	}
	if got, is := l.Next(2, 1); is || !reflect.DeepEqual(got, api.Letter{}) {
		t.Errorf("P18.1: Next(2, 1): %+v, %v", got, is)
	}
	if got, is := l.Next(1, 2); !is || !reflect.DeepEqual(got, y) {
		t.Errorf("P18.1: Next(1, 2): %+v, %v", got, is)
	}
}

func TestNothingOnItsWay(t *testing.T) {
	l, m := both(t)
	for range 2 { // To ask does not make a link be there.
		for _, from := range edges {
			for _, to := range edges {
				checkNext(t, "P18.1: new", l, m, from, to)
				checkPairs(t, "P18.1: new", l, m, [2]int{from, to})
			}
		}
	}
	checkPairs(t, "P18.2: a clone of new ones", l.Clone(), m, [2]int{0, 0})
}

// A zero letter is a letter too: true tells that it came.
func TestZeroLetter(t *testing.T) {
	l, m := both(t)
	send(t, l, m, 0, 0, api.Letter{})
	checkPairs(t, "P18.1: a zero letter", l, m)
	if _, is := l.Next(0, 0); !is {
		t.Error("P18.1: a zero letter that was sent did not come")
	}
	if _, is := l.Next(0, 0); is {
		t.Error("P18.1: a zero letter came twice")
	}
}

// Each field of a letter comes as it was sent, by itself and at its bounds, of whatever kind it is.
func TestEachField(t *testing.T) {
	l, m := both(t)
	var letters []api.Letter
	for _, n := range []int{math.MinInt, -1, 0, 1, 2, 3, 4, 5, 256, math.MaxInt} {
		letters = append(letters,
			api.Letter{Kind: n}, api.Letter{Number: n}, api.Letter{Slot: n}, api.Letter{Ends: n}, api.Letter{Asking: n},
			api.Letter{Reply: api.Reply{Kind: n}}, api.Letter{Reply: api.Reply{Int: n}})
	}
	for _, s := range []string{"a", "\x00", "\xff\r\n", "a b", string(make([]byte, 5000))} {
		letters = append(letters,
			api.Letter{Key: s}, api.Letter{Text: s}, api.Letter{Args: []string{s}}, api.Letter{Args: []string{"", s, ""}},
			api.Letter{Reply: api.Reply{Text: s}}, api.Letter{Reply: api.Reply{List: []api.Reply{{}, {Text: s}}}})
	}
	letters = append(letters, api.Letter{Good: true}, api.Letter{Args: make([]string, 1000)}, api.Letter{Reply: api.Reply{List: make([]api.Reply, 1000)}})
	for _, x := range letters {
		send(t, l, m, 5, 6, x)
	}
	checkRest(t, "P18.1: each field", l, m)
}

// Letters on each link between ends of all sizes, to the same end also: they come from one link, and all others stay.
func TestEndsAreAnyNumbers(t *testing.T) {
	l, m := both(t)
	n := 0
	for _, from := range edges {
		for _, to := range edges {
			for range 2 {
				n++
				send(t, l, m, from, to, numbered(n))
			}
			checkPairs(t, "P18.1: ends", l, m, [2]int{to, from})
		}
	}
	if p := l.Pairs(); len(p) != len(edges)*len(edges) || !slices.IsSortedFunc(p, func(a, b [2]int) int { return slices.Compare(a[:], b[:]) }) {
		t.Errorf("P18.1: Pairs: %v", p)
	}
	for _, to := range edges { // Not in the order in which they were sent.
		for _, from := range edges {
			checkNext(t, "P18.1: ends", l, m, from, to)
			checkPairs(t, "P18.1: ends", l, m, [2]int{from, to})
		}
	}
	checkRest(t, "P18.1: ends", l, m)
}

// Links both ways, and of an end to itself, are three; no sum or mixture of the ends tells them apart.
func TestLinksAreByBothEnds(t *testing.T) {
	for _, p := range [][3][2]int{
		{{1, 2}, {2, 1}, {1, 1}},
		{{0, 3}, {1, 2}, {3, 0}},
		{{-1, 2}, {1, -2}, {-2, 1}},
		{{2, 6}, {3, 4}, {1, 12}},
		{{0, 1}, {0, 1 << 32}, {1 << 32, 0}},
		{{1, 11}, {11, 1}, {111, 0}},
		{{math.MinInt, math.MaxInt}, {math.MaxInt, math.MinInt}, {0, -1}},
	} {
		l, m := both(t)
		for i, ends := range p {
			for range i + 1 {
				send(t, l, m, ends[0], ends[1], numbered(100+i))
			}
		}
		checkPairs(t, "P18.1: by both ends", l, m)
		for i, ends := range p {
			if n := l.Waiting(ends[0], ends[1]); n != i+1 {
				t.Errorf("P18.1: Waiting%v: %d, not %d", ends, n, i+1)
			}
			if x, is := l.Next(ends[0], ends[1]); !is || x.Number != 100+i {
				t.Errorf("P18.1: Next%v: %d, %v", ends, x.Number, is)
			}
		}
	}
}

// A link that is empty again is as one that never had a letter; letters sent on it again come as the first ones did.
func TestEmptyAgain(t *testing.T) {
	for many := range 40 {
		l, m := both(t)
		send(t, l, m, 3, 4, numbered(-1))
		for round := range 4 {
			for i := range many {
				send(t, l, m, 1, 2, numbered(100*round+i))
			}
			checkPairs(t, "P18.1: full", l, m, [2]int{1, 2})
			for range many + 2 {
				checkNext(t, "P18.1: empty again", l, m, 1, 2)
				checkPairs(t, "P18.1: empty again", l, m, [2]int{1, 2})
			}
			if n := l.Waiting(1, 2); n != 0 {
				t.Fatalf("P18.1: Waiting of a link that is empty again: %d", n)
			}
			if !slices.Equal(l.Pairs(), [][2]int{{3, 4}}) {
				t.Fatalf("P18.1: Pairs behind an empty link: %v", l.Pairs())
			}
			c, k := l.Clone(), m.clone()
			checkNext(t, "P18.2: a clone's empty link", c, k, 1, 2)
			checkPairs(t, "P18.2: a clone's empty link", c, k, [2]int{1, 2})
		}
	}
}

// Memory of links that are empty again is let go: nothing stands for them any more.
func TestEmptyLinksAreDeleted(t *testing.T) {
	l := New()
	for n := range 1000 {
		l.Send(n, -n, numbered(n))
		l.Waiting(-n, n)
		l.Next(n+1, n)
		l.Next(n, -n)
		l.Next(n, -n)
	}
	if len(l.rows) != 0 {
		t.Errorf("Ways: %d links stand for none", len(l.rows))
	}
}

// All scripts of up to six calls on three links, each answer held against the model's.
func TestAllSmallScripts(t *testing.T) {
	ends := [][2]int{{1, 2}, {2, 1}, {1, 1}}
	calls := 2 * len(ends)
	for script := range calls * calls * calls * calls * calls * calls {
		l, m := both(t)
		for n := range 6 {
			call := script % calls
			script /= calls
			p := ends[call/2]
			if call%2 == 0 {
				send(t, l, m, p[0], p[1], numbered(n+1))
			} else {
				checkNext(t, "P18.1: a small script", l, m, p[0], p[1])
			}
			checkPairs(t, "P18.1: a small script", l, m, ends...)
		}
	}
}

// twins are links, a clone, and the models of both: whichever is called, the other one stays.
type twins struct {
	l [2]*Links
	m [2]*plain
}

// script does many calls of chance, on links and on clones of them; all are held against their models behind every call.
func script(t *testing.T, c *chance, ends func() int, steps int) {
	t.Helper()
	l, m := both(t)
	w := twins{[2]*Links{l, l.Clone()}, [2]*plain{m, m.clone()}}
	for range steps {
		i := c.below(2)
		from, to := ends(), ends()
		if p := w.m[i].pairs(); len(p) > 0 && c.below(2) == 0 { // Else most links would never have a second letter.
			n := c.below(len(p))
			from, to = p[n][0], p[n][1]
		}
		switch k := c.below(40); {
		case k < 19:
			x := c.letter()
			send(t, w.l[i], w.m[i], from, to, x)
			spoil(x)
		case k < 39:
			checkNext(t, "P18.1: in a script", w.l[i], w.m[i], from, to)
		default:
			w.l[1-i], w.m[1-i] = w.l[i].Clone(), w.m[i].clone()
		}
		for i := range w.l {
			checkPairs(t, "P18.1: in a script", w.l[i], w.m[i], [2]int{from, to}, [2]int{to, from}, [2]int{ends(), ends()})
		}
	}
	for i := range w.l {
		checkRest(t, "P18.3: behind a script", w.l[i], w.m[i])
	}
}

func TestScriptsOfChance(t *testing.T) {
	c := chance(18)
	few := []int{math.MinInt, -1, 0, 1, math.MaxInt}
	for i := range 150 {
		script(t, &c, func() int { return few[c.below(1+i%len(few))] }, 200)
	}
	for range 30 {
		script(t, &c, func() int { return edges[c.below(len(edges))] }, 300)
	}
	for range 10 {
		script(t, &c, func() int { return c.below(2000) - 1000 }, 500)
	}
}

// P18.3 by itself, without the model: what came and what is still on its way is what was sent, on each of the links, however the calls are mixed.
func TestWhatCameIsWhatWasSent(t *testing.T) {
	c := chance(3)
	for range 50 {
		l := New()
		sent, came := map[[2]int][]int{}, map[[2]int][]int{}
		for n := range 400 {
			p := [2]int{c.below(4) - 1, c.below(4) - 1}
			if c.below(5) < 3 {
				l.Send(p[0], p[1], numbered(n))
				sent[p] = append(sent[p], n)
			} else if x, is := l.Next(p[0], p[1]); is {
				came[p] = append(came[p], x.Number)
			}
		}
		for p, want := range sent {
			if n := l.Waiting(p[0], p[1]); n != len(want)-len(came[p]) {
				t.Fatalf("P18.3: Waiting%v: %d of %d, and %d came", p, n, len(want), len(came[p]))
			}
			for x, is := l.Next(p[0], p[1]); is; x, is = l.Next(p[0], p[1]) {
				came[p] = append(came[p], x.Number)
			}
			if !slices.Equal(came[p], want) {
				t.Fatalf("P18.3: on %v came %v of %v", p, came[p], want)
			}
		}
	}
}

// What happens on one link is not to be seen on another: the same calls on it, with calls on others between and without.
func TestLinksDoNotBearOnOneAnother(t *testing.T) {
	c := chance(8)
	for range 100 {
		alone, among := New(), New()
		for n := range 200 {
			for range c.below(4) {
				if from := 1 + c.below(3); c.below(2) == 0 {
					among.Send(from, 1, c.letter())
				} else {
					among.Next(from, 1)
				}
			}
			if c.below(2) == 0 {
				alone.Send(1, 2, numbered(n))
				among.Send(1, 2, numbered(n))
			} else {
				x, is := alone.Next(1, 2)
				if y, was := among.Next(1, 2); is != was || written(x) != written(y) {
					t.Fatalf("P18.3: among others %s, %v; alone %s, %v", written(y), was, written(x), is)
				}
			}
			if a, b := alone.Waiting(1, 2), among.Waiting(1, 2); a != b {
				t.Fatalf("P18.3: Waiting: among others %d, alone %d", b, a)
			}
		}
	}
}

// deep is a reply whose List has lists in lists, also none and empty ones.
func deep() api.Reply {
	return api.Reply{Kind: api.Many, List: []api.Reply{
		{Kind: api.Bulk, Text: "a"},
		{Kind: api.Many, List: []api.Reply{}},
		{Kind: api.Many, List: nil},
		{Kind: api.Many, List: make([]api.Reply, 0, 4)},
		{Kind: api.Many, List: []api.Reply{
			{Kind: api.Whole, Int: 5},
			{Kind: api.Many, List: []api.Reply{{Kind: api.Bulk, Text: "b"}, {Kind: api.Many, List: []api.Reply{{Kind: api.Bulk, Text: "c"}}}}},
		}},
	}}
}

func deepLetter() api.Letter {
	return api.Letter{Kind: api.LinkAnswer, Number: 4, Args: []string{"SET", "a", "b"}, Reply: deep()}
}

// What was sent, and what was told, is written into at each place of each list: nothing of it is to be seen.
func TestListsAreCopied(t *testing.T) {
	writes := []func(x *api.Letter){
		func(x *api.Letter) { x.Args[0] = "z" },
		func(x *api.Letter) { x.Args[2] = "z" },
		func(x *api.Letter) { x.Reply.List[0].Text = "z" },
		func(x *api.Letter) { x.Reply.List[2].List = deep().List },
		func(x *api.Letter) { x.Reply.List[3].List = append(x.Reply.List[3].List, api.Reply{Text: "z"}) },
		func(x *api.Letter) { x.Reply.List[4].List[0].Int = 6 },
		func(x *api.Letter) { x.Reply.List[4].List[1] = api.Reply{} },
		func(x *api.Letter) { x.Reply.List[4].List[1].List[0].Text = "z" },
		func(x *api.Letter) { x.Reply.List[4].List[1].List[1].List[0].Kind = 0 },
		func(x *api.Letter) { clear(x.Args); clear(x.Reply.List) },
		func(x *api.Letter) { spoil(*x) },
	}
	for i, write := range writes {
		l, m := both(t)
		x := deepLetter()
		send(t, l, m, 1, 2, x)
		send(t, l, m, 1, 2, x)
		send(t, l, m, 2, 1, x)
		c, k := l.Clone(), m.clone()
		write(&x)
		send(t, l, m, 1, 2, x)
		for _, p := range [][2]int{{1, 2}, {1, 2}, {2, 1}} {
			told, _ := l.Next(p[0], p[1])
			if want, _ := m.next(p[0], p[1]); written(told) != want {
				t.Errorf("P18.2: %d: %s, not %s", i, written(told), want)
			}
			write(&told)
		}
		checkRest(t, "P18.2: what was sent was written into", l, m)
		checkRest(t, "P18.2: in a clone, what the other one told was written into", c, k)
	}
}

// A list that was sent may stand in itself twice, and in two letters: what is told shares none.
func TestSharedListsAreApart(t *testing.T) {
	l, m := both(t)
	args := []string{"a", "b", "c", "d"}
	inner := []api.Reply{{Text: "x"}, {Text: "y"}}
	many := []api.Reply{{List: inner}, {List: inner}, {List: inner[:1]}}
	send(t, l, m, 1, 2, api.Letter{Args: args[:2], Reply: api.Reply{List: many}})
	send(t, l, m, 1, 2, api.Letter{Args: args[1:3], Reply: api.Reply{List: inner[:1]}})
	send(t, l, m, 1, 2, api.Letter{Args: args, Reply: many[0]})
	x, _ := l.Next(1, 2)
	m.next(1, 2)
	x.Reply.List[0].List[0].Text = "z"
	if a, b := x.Reply.List[1].List[0].Text, x.Reply.List[2].List[0].Text; a != "x" || b != "x" {
		t.Errorf("R6: lists of one letter share memory: %q, %q", a, b)
	}
	x.Args = append(x.Args, "z")
	x.Reply.List = append(x.Reply.List, api.Reply{Text: "z"})
	if !slices.Equal(args, []string{"a", "b", "c", "d"}) || inner[0].Text != "x" || many[0].List[0].Text != "x" {
		t.Errorf("R6: what was told shares memory with what was sent: %q, %v", args, inner)
	}
	checkRest(t, "R6: lists of two letters", l, m)
}

// None and empty lists are as good as one another: neither hinders a letter, and neither becomes another.
func TestNoneAndEmptyLists(t *testing.T) {
	l, m := both(t)
	letters := []api.Letter{
		{},
		{Args: []string{}, Reply: api.Reply{List: []api.Reply{}}},
		{Args: make([]string, 0, 5), Reply: api.Reply{List: make([]api.Reply, 0, 5)}},
		{Args: []string{""}, Reply: api.Reply{List: []api.Reply{{}}}},
		{Reply: api.Reply{List: []api.Reply{{List: []api.Reply{}}, {List: []api.Reply{{}}}}}},
	}
	for i, x := range letters {
		send(t, l, m, i/3, 0, x)
	}
	c, k := l.Clone(), m.clone()
	for _, x := range letters {
		spoil(x)
	}
	checkRest(t, "R3: none and empty lists", l, m)
	checkRest(t, "R3: none and empty lists in a clone", c, k)
}

// Lists as deep as the limits let them be: one in the other, each with a text of its own.
func TestDeepestLists(t *testing.T) {
	const depth = 1 << 16
	chain := func() api.Reply {
		var r api.Reply
		for n := range depth {
			r = api.Reply{Kind: api.Many, Int: n, List: []api.Reply{r}}
		}
		return r
	}
	check := func(what string, r api.Reply) {
		t.Helper()
		for n := depth - 1; n >= 0; n-- {
			if r.Int != n || len(r.List) != 1 {
				t.Fatalf("P18.2: %s: %d lists deep: Int %d, %d in it", what, depth-1-n, r.Int, len(r.List))
			}
			r = r.List[0]
		}
	}
	ruin := func(r api.Reply) {
		for len(r.List) > 0 {
			deeper := r.List[0]
			r.List[0] = api.Reply{Int: -1}
			r = deeper
		}
	}
	l := New()
	x := api.Letter{Reply: chain()}
	l.Send(0, 1, x)
	c := l.Clone()
	ruin(x.Reply)
	told, _ := l.Next(0, 1)
	check("written into behind Send", told.Reply)
	ruin(told.Reply)
	told, _ = c.Next(0, 1)
	check("in a clone", told.Reply)
}

// A clone has the same on its way, and nothing that is done on one is seen on the other, nor on clones of clones.
func TestClone(t *testing.T) {
	l, m := both(t)
	for n := range 5 {
		send(t, l, m, 1, 2, numbered(n))
		send(t, l, m, -1, n%2, api.Letter{Number: -n, Args: []string{"a"}, Reply: deep()})
	}
	c, k := l.Clone(), m.clone()
	if c == nil || c == l {
		t.Fatal("P18.2: Clone is none")
	}
	d, o := c.Clone(), k.clone()
	check := func(what string) {
		t.Helper()
		some := [][2]int{{1, 2}, {2, 1}, {-1, 0}, {-1, 1}, {7, 7}, {8, 8}}
		checkPairs(t, what+": the links", l, m, some...)
		checkPairs(t, what+": the clone", c, k, some...)
		checkPairs(t, what+": the clone's clone", d, o, some...)
	}
	check("P18.2: new")
	checkNext(t, "P18.2: the links", l, m, 1, 2)
	checkNext(t, "P18.2: the links", l, m, 1, 2)
	check("P18.2: the links had two taken")
	send(t, c, k, 1, 2, numbered(70))
	check("P18.2: the clone had one sent")
	send(t, l, m, 1, 2, numbered(71))
	send(t, l, m, 1, 2, numbered(72))
	check("P18.2: the links had two sent")
	send(t, d, o, 7, 7, numbered(73))
	send(t, c, k, 8, 8, numbered(74))
	check("P18.2: new links")
	for range 6 {
		checkNext(t, "P18.2: the clone", c, k, -1, 0)
	}
	check("P18.2: the clone had a link emptied")
	send(t, c, k, -1, 0, numbered(75))
	check("P18.2: the clone had one sent on a link that was empty")
	checkRest(t, "P18.2: the clone", c, k)
	check("P18.2: the clone had all taken")
	checkRest(t, "P18.2: the links", l, m)
	check("P18.2: the links had all taken")
	checkRest(t, "P18.2: the clone's clone", d, o)
}

// Links with one letter are cloned, and each goes on with the next: neither is led to the other one's.
func TestCloneGoesOnBehindTheLast(t *testing.T) {
	for many := 1; many < 5; many++ {
		l, m := both(t)
		for n := range many {
			send(t, l, m, 1, 2, numbered(n))
		}
		c, k := l.Clone(), m.clone()
		for n := range 4 {
			send(t, l, m, 1, 2, numbered(10+n))
			send(t, c, k, 1, 2, numbered(20+n))
		}
		checkRest(t, "P18.2: the links", l, m)
		checkRest(t, "P18.2: the clone", c, k)
	}
}

// What Pairs told is the caller's own.
func TestPairsAreTheCallersOwn(t *testing.T) {
	l, m := both(t)
	for n := range 20 {
		send(t, l, m, n%5, n%3, numbered(n))
	}
	first, second := l.Pairs(), l.Pairs()
	for i := range first {
		first[i][0], first[i][1] = 99, 99
	}
	first = append(first[:3], [2]int{98, 98})
	if !slices.Equal(second, m.pairs()) {
		t.Errorf("R6: what Pairs told twice shares memory: %v", second)
	}
	checkPairs(t, "R6: what Pairs told was written into", l, m, [2]int{99, 99}, [2]int{98, 98})
	checkRest(t, "R6: what Pairs told was written into", l, m)
}

// The same calls tell the same, however often they are done.
func TestTheSameAlways(t *testing.T) {
	var was [][2]int
	for i := range 30 {
		l := New()
		for n := range 300 {
			l.Send(n*7919%61-30, n*104729%53-26, numbered(n))
		}
		if i == 0 {
			was = l.Pairs()
		}
		for range 3 {
			if p := l.Pairs(); !slices.Equal(p, was) {
				t.Fatalf("R7: Pairs: %v, and then %v", was, p)
			}
		}
		if p := l.Clone().Pairs(); !slices.Equal(p, was) {
			t.Fatalf("R7: Pairs of a clone: %v, and then %v", was, p)
		}
	}
}

func TestManyLettersOnOneLink(t *testing.T) {
	const many = 200_000
	l := New()
	next := func(what string, l *Links, want int) {
		t.Helper()
		if x, is := l.Next(-3, 3); !is || x.Number != want {
			t.Fatalf("P18.1: %s: the letter %d, %v, not %d", what, x.Number, is, want)
		}
	}
	for n := range many {
		l.Send(-3, 3, numbered(n))
	}
	c := l.Clone()
	if l.Waiting(-3, 3) != many || c.Waiting(-3, 3) != many || len(l.Pairs()) != 1 {
		t.Errorf("P18.1: Waiting: %d, a clone's %d; %d Pairs", l.Waiting(-3, 3), c.Waiting(-3, 3), len(l.Pairs()))
	}
	for n := range many { // A row that is never empty, and goes on.
		next("many", l, n)
		l.Send(-3, 3, numbered(many+n))
	}
	for n := range many {
		next("many more", l, many+n)
		next("many in a clone", c, n)
		if l.Waiting(-3, 3) != many-1-n || c.Waiting(-3, 3) != many-1-n {
			t.Fatalf("P18.1: Waiting: %d, a clone's %d, not %d", l.Waiting(-3, 3), c.Waiting(-3, 3), many-1-n)
		}
	}
	if _, is := l.Next(-3, 3); is || len(l.Pairs()) != 0 || len(c.Pairs()) != 0 {
		t.Error("P18.1: something is left of many")
	}
}

func TestOneLetterOnEachOfManyLinks(t *testing.T) {
	const ends = 300
	l := New()
	for i := range ends * ends {
		k := i * 7919 % (ends * ends) // Each place once, in no order.
		l.Send(k/ends-ends/2, k%ends-ends/2, numbered(k))
	}
	c := l.Clone()
	for i, p := range l.Pairs() {
		if want := [2]int{i/ends - ends/2, i%ends - ends/2}; p != want {
			t.Fatalf("P18.1: the pair %d: %v, not %v", i, p, want)
		}
		if n := l.Waiting(p[0], p[1]); n != 1 {
			t.Fatalf("P18.1: Waiting%v: %d", p, n)
		}
		if x, is := l.Next(p[0], p[1]); !is || x.Number != i {
			t.Fatalf("P18.1: Next%v: %d, %v", p, x.Number, is)
		}
	}
	if len(l.Pairs()) != 0 || len(c.Pairs()) != ends*ends {
		t.Errorf("P18.1: %d pairs are left, and %d of the clone", len(l.Pairs()), len(c.Pairs()))
	}
}
