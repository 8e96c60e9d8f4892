package deque

import (
	"math"
	"slices"
	"strconv"
	"testing"

	"marshalyard/api"
)

// plain is a row as the chapter tells it, a list that is made anew by each change.
type plain []string

func (p *plain) push(front bool, s string) bool {
	switch {
	case len(*p) >= api.MaxItems:
		return false
	case front:
		*p = append(plain{s}, *p...)
	default:
		*p = append(slices.Clone(*p), s)
	}
	return true
}

func (p *plain) pop(front bool) (string, bool) {
	if len(*p) == 0 {
		return "", false
	}
	if front {
		s := (*p)[0]
		*p = slices.Clone((*p)[1:])
		return s, true
	}
	last := len(*p) - 1
	s := (*p)[last]
	*p = slices.Clone((*p)[:last])
	return s, true
}

// at goes through the row from both ends.
func (p plain) at(i int) (string, bool) {
	for k, s := range p {
		if k == i || k-len(p) == i {
			return s, true
		}
	}
	return "", false
}

// stretch picks one by one those that lie neither ahead of from nor behind to.
func (p plain) stretch(from, to int) plain {
	if from < 0 {
		from += len(p)
	}
	if to < 0 {
		to += len(p)
	}
	var l plain
	for k, s := range p {
		if from <= k && k <= to {
			l = append(l, s)
		}
	}
	return l
}

func (p *plain) put(i int, s string) bool {
	l := slices.Clone(*p)
	for k := range l {
		if k == i || k-len(l) == i {
			l[k] = s
			*p = l
			return true
		}
	}
	return false
}

func chance(seed uint32) func() int {
	return func() int {
		seed = seed*1664525 + 1013904223
		return int(seed >> 8)
	}
}

// check holds d against p by all that is told without a change.
func check(t *testing.T, d *Deque, p plain) {
	t.Helper()
	if d.Len() != len(p) {
		t.Fatalf("P6.1: Len: %d, not %d", d.Len(), len(p))
	}
	if l := d.Range(0, -1); !slices.Equal(l, p) {
		t.Fatalf("P6.2: Range(0, -1): %q, not %q", l, p)
	}
	for i := -len(p) - 2; i < len(p)+2; i++ {
		s, is := d.At(i)
		if want, there := p.at(i); s != want || is != there {
			t.Fatalf("P6.2: At(%d) of %q: %q, %t", i, p, s, is)
		}
	}
}

// row is a deque of the texts 0, 1, .., whose first lies behind so many turns of the ring.
func row(many, turns int) (*Deque, plain) {
	d := New()
	for range turns {
		d.Push(false, "gone")
		d.Pop(true)
	}
	var p plain
	for i := range many {
		d.Push(false, strconv.Itoa(i))
		p = append(p, strconv.Itoa(i))
	}
	return d, p
}

// turnings are those at which a row begins at ring's front, goes round, or touches its end.
func turnings(many int) []int {
	return []int{0, 1, api.MaxItems/2 + 1, api.MaxItems - many, (api.MaxItems - many + 1) % api.MaxItems, api.MaxItems - 2, api.MaxItems - 1}
}

// farEdges are places at which a sum may wrap round.
func farEdges() []int {
	return []int{math.MinInt, math.MinInt + 1, math.MinInt + api.MaxItems, -1 << 32, 1 << 32, math.MaxInt - api.MaxItems, math.MaxInt - 1, math.MaxInt}
}

func TestExamples(t *testing.T) {
	d := New()
	if !d.Push(false, "a") || !d.Push(false, "b") || !d.Push(true, "c") {
		t.Error("P6.1: a push is refused")
	}
	if l := d.Range(0, -1); !slices.Equal(l, []string{"c", "a", "b"}) {
		t.Errorf("P6.2: %q", l)
	}
	if s, is := d.Pop(true); s != "c" || !is {
		t.Errorf("P6.1: Pop: %q, %t", s, is)
	}
	if s, is := d.At(-1); s != "b" || !is {
		t.Errorf("P6.2: At: %q, %t", s, is)
	}
	if d.Put(5, "x") {
		t.Error("P6.2: Put beyond the row")
	}
	check(t, d, plain{"a", "b"})
}

func TestEmpty(t *testing.T) {
	for turns := range api.MaxItems + 2 {
		d, _ := row(0, turns)
		for range 3 {
			for _, front := range []bool{true, false} {
				if s, is := d.Pop(front); s != "" || is {
					t.Fatalf("P6.1: Pop(%t) of none: %q, %t", front, s, is)
				}
			}
		}
		for _, i := range append(farEdges(), -2, -1, 0, 1) {
			if s, is := d.At(i); s != "" || is || d.Put(i, "x") || len(d.Range(i, -1)) != 0 || len(d.Range(0, i)) != 0 {
				t.Fatalf("P6.2: at %d of none", i)
			}
			d.Trim(i, -1)
		}
		check(t, d, nil)
		check(t, d.Clone(), nil)
		d.Push(turns%2 == 0, "a")
		check(t, d, plain{"a"})
	}
}

func TestFull(t *testing.T) {
	for turns := range api.MaxItems + 1 {
		d, p := row(api.MaxItems, turns)
		if d.Push(true, "x") || d.Push(false, "x") || d.Clone().Push(true, "x") {
			t.Fatal("P6.1: a push beyond MaxItems")
		}
		check(t, d, p)
		front := turns%2 == 0
		d.Pop(front)
		p.pop(front)
		if !d.Push(!front, "new") || !p.push(!front, "new") || d.Push(true, "x") || d.Push(false, "x") {
			t.Fatal("P6.1: the place that is free again")
		}
		check(t, d, p)
	}
}

func TestFilledFromBothEnds(t *testing.T) {
	for atFront := range api.MaxItems + 1 {
		d, p := New(), plain{}
		for i := range api.MaxItems {
			front := i < atFront
			if !d.Push(front, strconv.Itoa(i)) {
				t.Fatalf("P6.1: push %d is refused", i)
			}
			p.push(front, strconv.Itoa(i))
		}
		if d.Push(true, "x") || d.Push(false, "x") {
			t.Fatal("P6.1: a push beyond MaxItems")
		}
		check(t, d, p)
	}
}

// TestEveryOrder does all short rows of pushes and pops, from each place of the ring that matters.
func TestEveryOrder(t *testing.T) {
	const steps = 6
	for _, turns := range turnings(steps) {
		for order := range 1 << (2 * steps) {
			d, _ := row(0, turns)
			var p plain
			for i := range steps {
				what := order >> (2 * i) & 3
				front := what&1 == 1
				if what&2 == 0 {
					if d.Push(front, strconv.Itoa(i)) != p.push(front, strconv.Itoa(i)) {
						t.Fatal("P6.1: Push")
					}
					continue
				}
				s, is := d.Pop(front)
				if want, there := p.pop(front); s != want || is != there {
					t.Fatalf("P6.1: Pop(%t): %q, %t, not %q, %t", front, s, is, want, there)
				}
			}
			check(t, d, p)
		}
	}
}

func TestPlaces(t *testing.T) {
	for _, many := range []int{0, 1, 2, 3, 17, api.MaxItems - 1, api.MaxItems} {
		for _, turns := range turnings(many) {
			d, p := row(many, turns)
			for i := -many - 3; i < many+3; i++ {
				checkPut(t, d, &p, i)
			}
			for _, i := range farEdges() {
				checkPut(t, d, &p, i)
			}
		}
	}
}

func checkPut(t *testing.T, d *Deque, p *plain, i int) {
	t.Helper()
	s := "at " + strconv.Itoa(i)
	if is, want := d.Put(i, s), p.put(i, s); is != want {
		t.Fatalf("P6.2: Put(%d) of %d: %t", i, len(*p), is)
	}
	got, is := d.At(i)
	if want, there := p.at(i); got != want || is != there {
		t.Fatalf("P6.2: At(%d) of %d: %q, %t", i, len(*p), got, is)
	}
	if !slices.Equal(d.Range(0, -1), *p) {
		t.Fatalf("P6.2: Put(%d) of %d: %q", i, len(*p), d.Range(0, -1))
	}
}

func checkStretch(t *testing.T, d *Deque, p plain, from, to int) {
	t.Helper()
	want := p.stretch(from, to)
	if l := d.Range(from, to); !slices.Equal(l, want) {
		t.Fatalf("P6.2: Range(%d, %d) of %d: %q, not %q", from, to, len(p), l, want)
	}
	c := d.Clone()
	c.Trim(from, to)
	checkTrimmed(t, c, want)
	if !slices.Equal(d.Range(0, -1), p) {
		t.Fatalf("P6.3: the clone's Trim(%d, %d) is seen", from, to)
	}
}

// checkTrimmed holds what a Trim left against p, and grows it at both ends.
func checkTrimmed(t *testing.T, d *Deque, p plain) {
	t.Helper()
	check(t, d, p)
	if d.Push(true, "x") != p.push(true, "x") || d.Push(false, "y") != p.push(false, "y") {
		t.Fatal("P6.2: a push behind Trim")
	}
	check(t, d, p)
}

func TestStretches(t *testing.T) {
	for many := range 6 {
		for _, turns := range turnings(many) {
			for from := -many - 2; from < many+3; from++ {
				for to := -many - 2; to < many+3; to++ {
					d, p := row(many, turns)
					checkStretch(t, d, p, from, to)
					d.Trim(from, to)
					checkTrimmed(t, d, p.stretch(from, to))
				}
			}
		}
	}
}

func TestFarStretches(t *testing.T) {
	places := append(farEdges(), -api.MaxItems-1, -api.MaxItems, -2, -1, 0, 1, 5, api.MaxItems-1, api.MaxItems)
	for _, many := range []int{0, 1, 5, api.MaxItems} {
		for _, turns := range []int{0, 1, api.MaxItems - 2} {
			d, p := row(many, turns)
			for _, from := range places {
				for _, to := range places {
					checkStretch(t, d, p, from, to)
				}
			}
		}
	}
}

// TestStretchesOfFull takes every stretch of a full row that goes round.
func TestStretchesOfFull(t *testing.T) {
	d, p := row(api.MaxItems, 100)
	for from := range api.MaxItems {
		for to := range api.MaxItems {
			if l := d.Range(from, to-api.MaxItems); !slices.Equal(l, p[from:max(from, to+1)]) {
				t.Fatalf("P6.2: Range(%d, %d) of the full row: %q", from, to-api.MaxItems, l)
			}
		}
	}
}

func TestOwnMemory(t *testing.T) {
	for _, turns := range turnings(4) {
		d, p := row(4, turns)
		l := d.Range(0, -1)
		for i := range l {
			l[i] = "written"
		}
		check(t, d, p)
		l = d.Range(0, -1)
		d.Put(0, "other")
		d.Pop(false)
		if !slices.Equal(l, p) {
			t.Fatalf("R6: what Range told: %q", l)
		}
	}
}

// changes are one of each that a deque can have.
func changes(d *Deque, p *plain, i int) {
	switch i {
	case 0:
		d.Push(true, "f")
		p.push(true, "f")
	case 1:
		d.Push(false, "b")
		p.push(false, "b")
	case 2:
		d.Pop(true)
		p.pop(true)
	case 3:
		d.Pop(false)
		p.pop(false)
	case 4:
		d.Put(1, "x")
		p.put(1, "x")
	case 5:
		d.Put(-1, "y")
		p.put(-1, "y")
	case 6:
		d.Trim(1, 1)
		*p = p.stretch(1, 1)
	case 7:
		d.Trim(2, 1)
		*p = p.stretch(2, 1)
	}
}

func TestClones(t *testing.T) {
	for _, many := range []int{0, 1, 2, 5, api.MaxItems - 1, api.MaxItems} {
		for _, turns := range turnings(many) {
			for one := range 8 {
				for other := range 8 {
					d, p := row(many, turns)
					c, q := d.Clone(), slices.Clone(p)
					check(t, c, q)
					changes(d, &p, one)
					check(t, c, q)
					changes(c, &q, other)
					check(t, d, p)
					check(t, c, q)
					check(t, c.Clone(), q)
				}
			}
		}
	}
}

func TestOrderAtEnds(t *testing.T) {
	for many := range api.MaxItems + 1 {
		for _, in := range []bool{true, false} {
			for _, out := range []bool{true, false} {
				d, _ := row(0, many)
				for i := range many {
					d.Push(in, strconv.Itoa(i))
				}
				for i := range many {
					want := strconv.Itoa(i)
					if in == out {
						want = strconv.Itoa(many - 1 - i)
					}
					if s, is := d.Pop(out); s != want || !is {
						t.Fatalf("P6.4: pushed at %t, popped at %t: %q, not %q", in, out, s, want)
					}
				}
				check(t, d, nil)
			}
		}
	}
}

func TestByChance(t *testing.T) {
	next := chance(6)
	texts := []string{"", "a", "\x00", "\xff", "a long one"}
	for range 60 {
		d, p := New(), plain{}
		// By turns it is rather filled than emptied, so that it comes to both bounds and goes round.
		for i := range 1500 {
			front, s := next()%2 == 0, texts[next()%len(texts)]
			more := 3
			if i/400%2 == 1 {
				more = 1
			}
			switch {
			case next()%4 < more:
				if d.Push(front, s) != p.push(front, s) {
					t.Fatal("P6.1: Push")
				}
			case next()%8 < 7:
				got, is := d.Pop(front)
				if want, there := p.pop(front); got != want || is != there {
					t.Fatalf("P6.1: Pop(%t): %q, not %q", front, got, want)
				}
			default:
				at := next()%600 - 300
				checkPut(t, d, &p, at)
				checkStretch(t, d, p, at, next()%600-300)
			}
		}
		check(t, d, p)
	}
}

// TestNothingKept looks into the ring: a text that went holds no memory.
func TestNothingKept(t *testing.T) {
	for _, turns := range turnings(9) {
		d, _ := row(9, turns)
		d.Pop(true)
		d.Pop(false)
		d.Trim(1, -3)
		kept := 0
		for _, s := range d.ring {
			if s != "" {
				kept++
			}
		}
		if kept != d.Len() || kept != 4 {
			t.Errorf("LANGUAGE 8: %d texts for %d", kept, d.Len())
		}
	}
}
