package sets

import (
	"slices"
	"strconv"
	"strings"
	"testing"
)

// chance is a row of numbers that look like chance, the same at every run.
type chance uint64

func (c *chance) below(n int) int {
	*c = *c*6364136223846793005 + 1442695040888963407
	return int(uint64(*c)>>33) % n
}

// words has the edges among texts: the empty one, ones that begin with others, bytes that are no runes, a zero byte.
var words = []string{"", "\x00", "a", "a\x00", "aa", "ab", "b", "B", "\x7f", "\x80", "\xc3", "\xc3\xa4", "\xff", "\xff\xff"}

// list is any list of some of the words, many of them twice or more.
func (c *chance) list(most int) []string {
	l := make([]string, c.below(most+1))
	for i := range l {
		l[i] = words[c.below(len(words))]
	}
	return l
}

// isSet is the chapter's sentence: each text is above all that stand ahead of it.
func isSet(l []string) bool {
	for i := range l {
		for j := range i {
			if strings.Compare(l[j], l[i]) >= 0 {
				return false
			}
		}
	}
	return true
}

// plainSet makes a set text by text: each is put ahead of the first that is above it, if it is not there.
func plainSet(l []string) []string {
	var set []string
	for _, s := range l {
		at := 0
		for at < len(set) && strings.Compare(set[at], s) < 0 {
			at++
		}
		if at == len(set) || set[at] != s {
			set = slices.Insert(set, at, s)
		}
	}
	return set
}

// lists are all lists of at most n of the texts.
func lists(n int, texts ...string) [][]string {
	all := [][]string{nil}
	for from := 0; n > 0; n-- {
		behind := len(all)
		for _, l := range all[from:behind] {
			for _, s := range texts {
				all = append(all, append(slices.Clone(l), s))
			}
		}
		from = behind
	}
	return all
}

// someSets are all sets of a few words, and some greater ones.
func someSets() [][]string {
	var all [][]string
	few := []string{"", "a", "a\x00", "b", "\xff"}
	for mask := range 1 << len(few) {
		var set []string
		for i, s := range few {
			if mask>>i&1 == 1 {
				set = append(set, s)
			}
		}
		all = append(all, set)
	}
	c := chance(8)
	for range 40 {
		all = append(all, plainSet(c.list(len(words))))
	}
	return append(all, plainSet(words))
}

func TestRight(t *testing.T) {
	for _, l := range lists(4, "", "a", "ab", "\xff") {
		if got := Right(l); got != isSet(l) {
			t.Fatalf("P8.1: Right(%q): %t", l, got)
		}
	}
	c := chance(1)
	for range 2000 {
		l := c.list(6)
		if got := Right(l); got != isSet(l) {
			t.Fatalf("P8.1: Right(%q): %t", l, got)
		}
	}
	for _, l := range [][]string{{"a", "b", "c", "c"}, {"b", "a"}, {"", ""}, {"b", "c", "a"}, {"a", "B"}, {"\xc3\xa4", "z"}, {"\x80", "\x7f"}} {
		if Right(l) {
			t.Errorf("P8.1: Right(%q)", l)
		}
	}
	for _, l := range [][]string{nil, {}, {""}, {"", "a"}, {"B", "a"}, {"9", "a"}, {"10", "9"}, {"a", "a\x00", "aa"}, {"z", "\xc3\xa4"}, {"\xef\xbf\xbd", "\xff"}} {
		if !Right(l) {
			t.Errorf("P8.1: not Right(%q)", l)
		}
	}
}

func checkMake(t *testing.T, l []string) {
	t.Helper()
	given := slices.Clone(l)
	got := Make(l)
	if !slices.Equal(got, plainSet(l)) || !Right(got) {
		t.Fatalf("P8.1: Make(%q): %q", l, got)
	}
	for _, s := range l {
		if !Has(got, s) {
			t.Fatalf("P8.1: Make(%q) has no %q", l, s)
		}
	}
	if again := Make(got); !slices.Equal(again, got) {
		t.Fatalf("P8.1: Make of the set %q: %q", got, again)
	}
	if !slices.Equal(l, given) {
		t.Fatalf("R5: Make(%q) left %q", given, l)
	}
}

func TestMake(t *testing.T) {
	for _, l := range lists(5, "", "a", "ab", "\xff") {
		checkMake(t, l)
	}
	c := chance(2)
	for range 2000 {
		checkMake(t, c.list(30))
	}
	checkMake(t, []string{"a", "a", "a", "a"})
	checkMake(t, words)
	long := make([]string, 0, 5000)
	for i := range cap(long) {
		long = append(long, strconv.Itoa(i*7919%3001))
	}
	if got := Make(long); len(got) != 3001 || !isSetByPairs(got) {
		t.Errorf("P8.1: of 5000 texts, 3001 unlike ones: %d", len(got))
	}
}

// isSetByPairs is for long lists: what rises from each to the next rises in all.
func isSetByPairs(l []string) bool {
	for i := range l {
		if i > 0 && strings.Compare(l[i-1], l[i]) >= 0 {
			return false
		}
	}
	return true
}

func TestHasWithWithout(t *testing.T) {
	for _, l := range someSets() {
		given := slices.Clone(l)
		for _, s := range append(slices.Clone(words), "c", "aaa", "\xff\x00") {
			if got := Has(l, s); got != slices.Contains(l, s) {
				t.Fatalf("P8.2: Has(%q, %q): %t", l, s, got)
			}
			if got, want := With(l, s), plainSet(append(slices.Clone(l), s)); !slices.Equal(got, want) {
				t.Fatalf("P8.2: With(%q, %q): %q", l, s, got)
			}
			want := slices.DeleteFunc(slices.Clone(l), func(x string) bool { return x == s })
			if got := Without(l, s); !slices.Equal(got, want) {
				t.Fatalf("P8.2: Without(%q, %q): %q", l, s, got)
			}
			if !slices.Equal(l, given) {
				t.Fatalf("R5: %q was %q", l, given)
			}
		}
	}
}

func TestHasOfLongSet(t *testing.T) {
	l := make([]string, 1000)
	for i := range l {
		l[i] = strconv.Itoa(1000 + 2*i)
	}
	for i := 999; i <= 3000; i++ {
		if got := Has(l, strconv.Itoa(i)); got != (i >= 1000 && i < 3000 && i%2 == 0) {
			t.Errorf("P8.2: Has of %d: %t", i, got)
		}
	}
}

// told holds what a call on two sets told against what is wanted of each text, by which of both have it.
func told(t *testing.T, name string, got, a, b []string, wanted func(inA, inB bool) bool) {
	t.Helper()
	if !isSet(got) {
		t.Fatalf("P8.3: %s of %q and %q is no set: %q", name, a, b, got)
	}
	for _, s := range slices.Concat(a, b, got, words) {
		if slices.Contains(got, s) != wanted(Has(a, s), Has(b, s)) {
			t.Fatalf("P8.3: %s of %q and %q: %q, at %q", name, a, b, got, s)
		}
	}
}

func TestTwoSets(t *testing.T) {
	for _, a := range someSets() {
		for _, b := range someSets() {
			givenA, givenB := slices.Clone(a), slices.Clone(b)
			told(t, "Union", Union(a, b), a, b, func(inA, inB bool) bool { return inA || inB })
			told(t, "Meet", Meet(a, b), a, b, func(inA, inB bool) bool { return inA && inB })
			told(t, "Less", Less(a, b), a, b, func(inA, inB bool) bool { return inA && !inB })
			inside := true
			for _, s := range a {
				inside = inside && Has(b, s)
			}
			if got := Inside(a, b); got != inside {
				t.Fatalf("P8.3: Inside(%q, %q): %t", a, b, got)
			}
			if !slices.Equal(a, givenA) || !slices.Equal(b, givenB) {
				t.Fatalf("R5: %q and %q were %q and %q", a, b, givenA, givenB)
			}
		}
	}
}

func TestEmptySameApart(t *testing.T) {
	for _, a := range someSets() {
		if !slices.Equal(Union(a, nil), a) || !slices.Equal(Union(nil, a), a) || len(Meet(a, nil)) != 0 || len(Meet(nil, a)) != 0 ||
			!slices.Equal(Less(a, nil), a) || len(Less(nil, a)) != 0 || !Inside(nil, a) || Inside(a, nil) != (len(a) == 0) {
			t.Fatalf("P8.3: %q and the empty set", a)
		}
		if !slices.Equal(Union(a, a), a) || !slices.Equal(Meet(a, a), a) || len(Less(a, a)) != 0 || !Inside(a, a) {
			t.Fatalf("P8.3: %q and the same", a)
		}
	}
	a, b := []string{"", "b", "d"}, []string{"a", "b\x00", "c", "\xff"}
	if !slices.Equal(Union(a, b), []string{"", "a", "b", "b\x00", "c", "d", "\xff"}) || len(Meet(a, b)) != 0 || !slices.Equal(Less(a, b), a) || !slices.Equal(Less(b, a), b) || Inside(a, b) || Inside(b, a) {
		t.Error("P8.3: sets with nothing in common")
	}
}

func TestWhatFollows(t *testing.T) {
	for _, a := range someSets() {
		for _, b := range someSets() {
			if !slices.Equal(Union(a, b), Union(b, a)) || !slices.Equal(Meet(a, b), Meet(b, a)) {
				t.Fatalf("P8.4: the order of %q and %q is seen", a, b)
			}
			less, meet := Less(a, b), Meet(a, b)
			if !slices.Equal(Union(less, meet), a) {
				t.Fatalf("P8.4: %q is not the union of %q and %q", a, less, meet)
			}
			if len(Meet(less, meet)) != 0 {
				t.Fatalf("P8.4: %q and %q have some in common", less, meet)
			}
			if Inside(a, b) != slices.Equal(meet, a) {
				t.Fatalf("P8.4: Inside(%q, %q), but in common are %q", a, b, meet)
			}
		}
	}
}

func TestOwnMemory(t *testing.T) {
	calls := map[string]func(a, b []string) []string{
		"Make":                       func(a, _ []string) []string { return Make(a) },
		"With":                       func(a, _ []string) []string { return With(a, "b") },
		"With, of one that is there": func(a, _ []string) []string { return With(a, "a") },
		"Without":                    func(a, _ []string) []string { return Without(a, "a") },
		"Without, of none":           func(a, _ []string) []string { return Without(a, "x") },
		"Without, of the last":       func(a, _ []string) []string { return Without(a, "e") },
		"Union":                      Union, "Meet": Meet, "Less": Less,
		"Union, with none": func(a, _ []string) []string { return Union(a, nil) },
		"Union, to none":   func(_, b []string) []string { return Union(nil, b) },
		"Union, the same":  func(a, _ []string) []string { return Union(a, a) },
		"Meet, the same":   func(a, _ []string) []string { return Meet(a, a) },
		"Less, of none":    func(a, _ []string) []string { return Less(a, nil) },
	}
	for name, call := range calls {
		// Room behind the sets shows a call that appends to what it was given.
		a, b := append(make([]string, 0, 9), "a", "c", "e"), append(make([]string, 0, 9), "a", "b", "c")
		got := call(a, b)
		want := slices.Clone(got)
		if !slices.Equal(a, []string{"a", "c", "e"}) || !slices.Equal(b, []string{"a", "b", "c"}) || strings.Join(a[3:9], "") != "" || strings.Join(b[3:9], "") != "" {
			t.Errorf("R5: %s changed what it was given", name)
		}
		got = got[:cap(got)]
		for i := range got {
			got[i] = "written"
		}
		if !slices.Equal(a, []string{"a", "c", "e"}) || !slices.Equal(b, []string{"a", "b", "c"}) || strings.Join(a[3:9], "") != "" || strings.Join(b[3:9], "") != "" {
			t.Errorf("R6: %s told what it was given", name)
		}
		first, second := call(a, b), call(a, b)
		for i := range first {
			first[i] = "written"
		}
		for i := range a {
			a[i], b[i] = "written", "written"
		}
		if !slices.Equal(second, want) {
			t.Errorf("R6, R7: %s: what it told is seen elsewhere: %q", name, second)
		}
	}
}

func TestNoSets(t *testing.T) {
	all := lists(4, "", "a", "b")
	for _, a := range all {
		for _, s := range []string{"", "a", "b", "c"} {
			Has(a, s)
			With(a, s)
			Without(a, s)
		}
		for _, b := range all {
			givenA, givenB := slices.Clone(a), slices.Clone(b)
			Union(a, b)
			Meet(a, b)
			Less(a, b)
			Inside(a, b)
			if !slices.Equal(a, givenA) || !slices.Equal(b, givenB) {
				t.Fatalf("R5: %q and %q were %q and %q", a, b, givenA, givenB)
			}
		}
	}
}

func TestExamples(t *testing.T) {
	if got := Make([]string{"b", "a", "b"}); !slices.Equal(got, []string{"a", "b"}) {
		t.Errorf("Examples: Make(b, a, b): %q", got)
	}
	a, b := []string{"a", "c"}, []string{"b", "c"}
	if got := Union(a, b); !slices.Equal(got, []string{"a", "b", "c"}) {
		t.Errorf("Examples: Union of a c and b c: %q", got)
	}
	if got := Less(a, b); !slices.Equal(got, []string{"a"}) {
		t.Errorf("Examples: Less of a c and b c: %q", got)
	}
}
