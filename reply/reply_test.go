package reply

import (
	"math"
	"reflect"
	"regexp"
	"strconv"
	"strings"
	"testing"

	"marshalyard/api"
)

var (
	x508   = strings.Repeat("x", 508)
	x509   = strings.Repeat("x", 509)
	b65536 = strings.Repeat("\r\n$*", 16384)
)

func simple(s string) api.Reply { return api.Reply{Kind: api.Simple, Text: s} }

func none() api.Reply { return api.Reply{Kind: api.Nil} }

func many(l ...api.Reply) api.Reply { return api.Reply{Kind: api.Many, List: l} }

// nested is r within so many Many.
func nested(n int, r api.Reply) api.Reply {
	for range n {
		r = many(r)
	}
	return r
}

// copies are n of r.
func copies(n int, r api.Reply) []api.Reply {
	var l []api.Reply
	for range n {
		l = append(l, r)
	}
	return l
}

type written struct {
	r    api.Reply
	text string
}

// writings have all kinds, and the edges that the chapter names.
func writings() []written {
	stars := strings.Repeat("*1\r\n", 3)
	return []written{
		{Number(-5), ":-5\r\n"},
		{List("a", ""), "*2\r\n$1\r\na\r\n$0\r\n\r\n"},

		{simple(""), "+\r\n"},
		{simple("OK"), "+OK\r\n"},
		{simple("+-:$* \t\x00\x0b\x0c\xff\xc2\x85"), "++-:$* \t\x00\x0b\x0c\xff\xc2\x85\r\n"},
		{simple(x508), "+" + x508 + "\r\n"},
		{simple(x509), "+" + x509 + "\r\n"},
		{Wrong(""), "-\r\n"},
		{Wrong("ERR no"), "-ERR no\r\n"},
		{Wrong("1"), "-1\r\n"},
		{Wrong("\x00\xfe\xe2\x80\xa8"), "-\x00\xfe\xe2\x80\xa8\r\n"},
		{Wrong(x509), "-" + x509 + "\r\n"},

		{Number(0), ":0\r\n"},
		{Number(1), ":1\r\n"},
		{Number(-1), ":-1\r\n"},
		{Number(10), ":10\r\n"},
		{Number(-100), ":-100\r\n"},
		{Number(1234567890), ":1234567890\r\n"},
		{Number(math.MaxInt32 + 1), ":2147483648\r\n"},
		{Number(math.MaxInt), ":9223372036854775807\r\n"},
		{Number(math.MinInt), ":-9223372036854775808\r\n"},

		{Text(""), "$0\r\n\r\n"},
		{Text("a"), "$1\r\na\r\n"},
		{Text("\r\n"), "$2\r\n\r\n\r\n"},
		{Text("\n\r\x00\xff"), "$4\r\n\n\r\x00\xff\r\n"},
		{Text("$-1\r\n"), "$5\r\n$-1\r\n\r\n"},
		{Text("ä"), "$2\r\nä\r\n"},
		{Text("0123456789"), "$10\r\n0123456789\r\n"},
		{Text(x509 + "xxx"), "$512\r\n" + x509 + "xxx\r\n"},
		{Text(b65536[:65535]), "$65535\r\n" + b65536[:65535] + "\r\n"},
		{Text(b65536), "$65536\r\n" + b65536 + "\r\n"},

		{none(), "$-1\r\n"},

		{many(), "*0\r\n"},
		{many(none()), "*1\r\n$-1\r\n"},
		{many(simple("a"), Wrong("b"), Number(3), Text("d"), none(), many()), "*6\r\n+a\r\n-b\r\n:3\r\n$1\r\nd\r\n$-1\r\n*0\r\n"},
		{many(many(Number(1)), many(), many(Number(2), Number(3))), "*3\r\n*1\r\n:1\r\n*0\r\n*2\r\n:2\r\n:3\r\n"},
		{many(copies(10, Number(7))...), "*10\r\n" + strings.Repeat(":7\r\n", 10)},
		{many(copies(1023, many())...), "*1023\r\n" + strings.Repeat("*0\r\n", 1023)},
		{many(copies(1024, none())...), "*1024\r\n" + strings.Repeat("$-1\r\n", 1024)},
		{nested(3, many()), stars + "*0\r\n"},
		{nested(4, Text("a")), stars + "*1\r\n$1\r\na\r\n"},
		{many(nested(3, Number(1)), nested(3, Number(2)), simple("x")), "*3\r\n" + stars + ":1\r\n" + stars + ":2\r\n+x\r\n"},
	}
}

// without are replies that have no writing.
func without() map[string]api.Reply {
	some := []api.Reply{Number(1)}
	zero := []api.Reply{{}}
	cases := map[string]api.Reply{
		"no kind": {}, "kind 7": {Kind: 7}, "kind -1": {Kind: -1}, "kind far off": {Kind: math.MinInt}, "no kind, Text": {Text: "a"},

		"Simple, Int": {Kind: api.Simple, Text: "a", Int: 1}, "Simple, List": {Kind: api.Simple, Text: "a", List: some}, "Simple, List of zero": {Kind: api.Simple, List: zero},
		"Fault, Int": {Kind: api.Fault, Text: "a", Int: -1}, "Fault, List": {Kind: api.Fault, Text: "a", List: some},
		"Whole, Text": {Kind: api.Whole, Int: 1, Text: "1"}, "Whole, List": {Kind: api.Whole, Int: 1, List: some},
		"Bulk, Int": {Kind: api.Bulk, Text: "a", Int: 1}, "Bulk, List": {Kind: api.Bulk, Text: "a", List: some},
		"Nil, Int": {Kind: api.Nil, Int: -1}, "Nil, Text": {Kind: api.Nil, Text: "\x00"}, "Nil, List": {Kind: api.Nil, List: some},
		"Many, Int": {Kind: api.Many, Int: 1, List: some}, "Many, Text": {Kind: api.Many, Text: "a", List: some}, "Many, Int, no List": {Kind: api.Many, Int: 1},

		"Simple, 510": simple(x509 + "x"), "Fault, 510": Wrong(x509 + "x"), "Simple, 65536": simple(strings.Repeat("x", 65536)), "Fault, 65537": Wrong(strings.Repeat("x", 65537)),
		"Bulk, 65537": Text(b65536 + "x"),
		"Many, 1025":  many(copies(1025, Number(1))...), "Many, 1025 Many": many(copies(1025, many())...),
		"nested 5, none": nested(4, many()), "nested 5": nested(5, Number(1)), "nested 6": nested(6, Number(1)), "nested 2^16": nested(1<<16, Number(1)),
		"nested 5 behind another": many(Number(1), nested(3, Number(2)), nested(4, Number(3))),
	}
	for _, text := range []string{"\r", "\n", "\r\n", "a\r", "a\n", "\rb", "\nb", "a\rb", "a\nb", x508 + "\n", x508 + "\r", "\xff\n", "long enough\xff\r\xfe"} {
		cases["Simple, "+text] = simple(text)
		cases["Fault, "+text] = Wrong(text)
	}
	within := many(Number(1))
	within.List[0] = within
	cases["within itself"] = within
	return cases
}

func TestEncode(t *testing.T) {
	for _, w := range writings() {
		if got, ok := Encode(w.r); got != w.text || !ok {
			t.Errorf("P4.1: %.60q, %v; want %.60q", got, ok, w.text)
		}
	}
	for _, r := range []api.Reply{{Kind: api.Simple, List: []api.Reply{}}, {Kind: api.Nil, List: []api.Reply{}}, {Kind: api.Many, List: []api.Reply{}}} {
		if _, ok := Encode(r); !ok {
			t.Errorf("R3: an empty list is not as good as none: %v", r)
		}
	}
}

func TestEncodeRefuses(t *testing.T) {
	for name, r := range without() {
		for where, r := range map[string]api.Reply{"": r, " in a Many": many(r), " between": many(Number(1), r, Number(2)), " deep": nested(3, many(Text("a"), r))} {
			if got, ok := Encode(r); got != "" || ok {
				t.Errorf("P4.1: %.60s%s: %.60q, %v", name, where, got, ok)
			}
		}
	}
}

func TestDecode(t *testing.T) {
	for _, w := range writings() {
		for _, behind := range []string{"", "\r", "\n", "\r\n", "?", "x", ":1\r\n", "*", "$9", "\x00\xff", x509 + x509, w.text} {
			got, n, e := Decode(w.text + behind)
			if e != api.OK || n != len(w.text) || !reflect.DeepEqual(got, w.r) {
				t.Errorf("P4.4: %.60q and %.20q: %.60v, %d, %d; want %d bytes", w.text, behind, got, n, e, len(w.text))
			}
		}
	}
}

func checkError(t *testing.T, s string, want api.Errno) {
	t.Helper()
	r, n, e := Decode(s)
	if e != want || n != 0 || !reflect.DeepEqual(r, api.Reply{}) {
		t.Errorf("P4.2: %.60q of %d bytes: %.60v, %d, %d; want %d", s, len(s), r, n, e, want)
	}
}

func TestCutAtEveryPlace(t *testing.T) {
	for _, w := range writings() {
		for i := range len(w.text) {
			if r, n, e := Decode(w.text[:i]); e != api.ErrReplyShort || n != 0 || r.Kind != 0 || r.List != nil {
				t.Fatalf("P4.4: %d bytes of %.60q: %d, %d", i, w.text, n, e)
			}
		}
	}
}

// forms can't be the beginning of a writing: this is seen at the last byte, not ahead of it.
func forms() []string {
	l := []string{
		"?", "\r", "\n", " ", "0", "1", "a", "\x00", "\xff", "/", "!", ",", ".", "#", "%", "(",

		"+\n", "-\n", "+a\n", "-a\n", "+\r\r\n", "-\r\r\n", "+a\rb\r\n", "-a\rb\r\n", "+\ra\r\n", "+a\r\r\n", "+a\rb\n", "+\xff\r\xfe long enough\r\n",
		"+" + x509 + "x\n", "-" + x509 + "\r\r", "+" + x509 + "xx", "-" + x509 + "x\r", "+" + x508 + "\r\r\n",

		":\n", ":\r\n", ":1\n", ":01\r\n", ":05\r\n", ":00\r\n", ":-0\r\n", ":-00\r\n", ":-01\r\n", ":+1\r\n", ":+0\r\n", ":--1\r\n", ":-\r\n", ":+\r\n", ": 1\r\n", ":1 \r\n", ":1\r\r\n", ":\r1\r\n",
		":x\r\n", ":1x\r\n", ":x1\r\n", ":1_0\r\n", ":0x1\r\n", ":0b1\r\n", ":1e1\r\n", ":1.0\r\n", ":1/\r\n", ":1:\r\n", "::1\r\n", ":٣\r\n", ":\x00\r\n", ":1\x00\r\n",
		":9223372036854775808\r\n", ":-9223372036854775809\r\n", ":18446744073709551615\r\n", ":18446744073709551617\r\n", ":10000000000000000000000\r\n",
		":" + strings.Repeat("9", 509) + "\r\n", ":" + strings.Repeat("0", 509) + "\r\n", ":" + strings.Repeat("1", 511), ":1" + strings.Repeat("\r", 510),

		"$\n", "$\r\n", "$1\n", "$-1\n", "$-\r\n", "$-2\r\n", "$-0\r\n", "$-01\r\n", "$-10\r\n", "$--1\r\n", "$+1\r\n", "$+0\r\n", "$00\r\n", "$01\r\n", "$ 1\r\n", "$1 \r\n", "$-1 \r\n", "$1\r\r\n", "$-1\r\r\n", "$x\r\n", "$1x\r\n", "$$1\r\n", "$0x1\r\n", "$1_0\r\n",
		"$65537\r\n", "$65540\r\n", "$100000\r\n", "$655360\r\n", "$4294967296\r\n", "$4294967297\r\n", "$9223372036854775808\r\n", "$18446744073709551616\r\n", "$-65536\r\n", "$-9223372036854775808\r\n",
		"$" + strings.Repeat("9", 509) + "\r\n", "$" + strings.Repeat("1", 511), "$-1" + x509,
		"$0\r\nx", "$0\r\n\n", "$0\r\n\r\r", "$0\r\n\rx", "$0\r\n$", "$1\r\nab", "$1\r\na\n", "$1\r\na\rb", "$1\r\na\r\r", "$1\r\n\r\n", "$3\r\nab\r\n", "$2\r\nabc", "$65536\r\n" + b65536 + "x", "$65536\r\n" + b65536 + "\r\r",

		"*\n", "*\r\n", "*1\n", "*0\n", "*-1\r\n", "*-0\r\n", "*+1\r\n", "*00\r\n", "*01\r\n", "* 1\r\n", "*1 \r\n", "*1\r\r\n", "*x\r\n", "*1x\r\n", "**1\r\n", "*1_0\r\n",
		"*1025\r\n", "*1030\r\n", "*10240\r\n", "*65536\r\n", "*4294967296\r\n", "*18446744073709551617\r\n", "*-1024\r\n",
		"*" + strings.Repeat("9", 509) + "\r\n", "*" + strings.Repeat("1", 511),
	}
	for _, s := range l[:len(l):len(l)] {
		l = append(l, "*1\r\n"+s, "*3\r\n:1\r\n"+s, "*1\r\n*1\r\n*2\r\n$-1\r\n"+s)
	}
	one := strings.Repeat("*1\r\n", 3)
	return append(l, "*1\r\n"+one+"*", "*2\r\n:1\r\n"+one+"*", "*2\r\n"+one+":1\r\n"+one+"*", strings.Repeat("*2\r\n", 4)+":1\r\n*", strings.Repeat("*2\r\n:0\r\n", 4)+"*")
}

func TestForm(t *testing.T) {
	for _, s := range forms() {
		checkError(t, s[:len(s)-1], api.ErrReplyShort)
		for _, more := range []string{"", "\n", "\r\n", "x", "\r\n:1\r\n", x509 + "xxx"} {
			checkError(t, s+more, api.ErrReplyForm)
		}
	}
}

// TestShort: they may be beginnings as far as they are looked at, though some of their lines can have no right end.
func TestShort(t *testing.T) {
	for _, s := range []string{
		"", "+", "-", ":", "$", "*", "+\r", "+a\rb", "-\r\r", ":x", ":05", ":\r", ":-", ":99999999999999999999", "$x", "$-", "$-2", "$65537", "$65537\r", "*x", "*-1", "*1025", "*1025\r",
		"+" + x509 + "x", "+" + x509 + "\r", "-" + x508 + "\r\r", ":" + strings.Repeat("1", 510), "$" + x509 + "x", "*" + x509 + "\r",
		"$3\r\n", "$3\r\nab", "$3\r\nabc", "$3\r\nabc\r", "$0\r\n", "$0\r\n\r", "$65536\r\n", "$65536\r\n" + b65536 + "\r", "$2\r\n\r\n", "$2\r\n\r\n\r",
		"*1\r\n", "*2\r\n:1\r\n", "*1\r\n*1\r\n", "*1\r\n:x", "*2\r\n*0\r\n", "*1024\r\n" + strings.Repeat(":1\r\n", 1023), strings.Repeat("*1\r\n", 4), strings.Repeat("*1\r\n", 4) + "$",
	} {
		checkError(t, s, api.ErrReplyShort)
	}
}

func TestFirstPlaceCounts(t *testing.T) {
	cases := []struct {
		s    string
		want api.Errno
	}{
		{"*2\r\n:x\r\n", api.ErrReplyForm},
		{"*2\r\n:x\r\n:1", api.ErrReplyForm},
		{"*2\r\n:1\r\n:x", api.ErrReplyShort},
		{"*2\r\n$5\r\n?????", api.ErrReplyShort},
		{"*2\r\n$9\r\n:x\r\n?", api.ErrReplyShort},
		{"*1025\r\n?", api.ErrReplyForm},
		{"*1024\r\n?", api.ErrReplyForm},
		{"*1\r\n:1\r\n?", api.OK},
		{"*0\r\n?", api.OK},
		{":1\r\n?", api.OK},
	}
	for _, c := range cases {
		if _, _, e := Decode(c.s); e != c.want {
			t.Errorf("P4.2: %q: %d, want %d", c.s, e, c.want)
		}
	}
}

func TestSame(t *testing.T) {
	unlike := []api.Reply{
		{}, {Kind: 1}, {Kind: 2}, {Kind: -1}, {Int: 1}, {Int: -1}, {Text: "a"}, {Text: "A"}, {Text: "a\x00"}, {Text: "b"},
		{List: []api.Reply{{}}}, {List: []api.Reply{{}, {}}}, {Kind: 7, Int: 7, Text: "7", List: []api.Reply{{Kind: 7}}},
		simple("a"), Wrong("a"), Text("a"), Number(1), Number(2), none(), many(),
		many(Number(1)), many(Number(1), Number(2)), many(Number(2), Number(1)), many(many()), many(many(), many()), many(many(many())),
		List("a", "b"), List("ab"), List("", "ab"), List("ab", ""), List(""), List("", ""),
		nested(5, Number(1)), nested(5, Number(2)), nested(6, Number(1)), nested(5, Text("1")), nested(5, api.Reply{Kind: api.Whole, Int: 1, Text: "1"}),
		many(copies(1025, Number(1))...), many(append(copies(1024, Number(1)), Number(2))...),
		nested(1<<16-1, Number(1)), nested(1<<16-1, Number(2)), nested(1<<16-2, Number(1)),
	}
	for i, a := range unlike {
		for j, b := range unlike {
			if Same(a, b) != (i == j) {
				t.Errorf("P4.3: Same of number %d and %d is %v", i, j, i != j)
			}
		}
		if !Same(a, copyOf(a)) || !Same(copyOf(a), a) {
			t.Errorf("P4.3: number %d is not the same as its copy", i)
		}
	}
	if empty := (api.Reply{List: []api.Reply{}}); !Same(empty, api.Reply{}) || !Same(many(empty), many(api.Reply{})) {
		t.Error("R3: an empty list is not as good as none")
	}
}

// copyOf shares no list with r.
func copyOf(r api.Reply) api.Reply {
	l := make([]api.Reply, 0, len(r.List)+3)
	for _, one := range r.List {
		l = append(l, copyOf(one))
	}
	r.List = l
	return r
}

func TestMakers(t *testing.T) {
	for _, s := range []string{"", "a", "\r\n", "\x00\xff", b65536 + "x"} {
		if got := Text(s); !reflect.DeepEqual(got, api.Reply{Kind: api.Bulk, Text: s}) {
			t.Errorf("P4.3: Text(%.20q) is %.60v", s, got)
		}
		if got := Wrong(s); !reflect.DeepEqual(got, api.Reply{Kind: api.Fault, Text: s}) {
			t.Errorf("P4.3: Wrong(%.20q) is %.60v", s, got)
		}
		if got := List(s); !reflect.DeepEqual(got, api.Reply{Kind: api.Many, List: []api.Reply{{Kind: api.Bulk, Text: s}}}) {
			t.Errorf("P4.3: List(%.20q) is %.60v", s, got)
		}
	}
	for _, n := range []int{0, 1, -1, math.MaxInt, math.MinInt} {
		if got := Number(n); !reflect.DeepEqual(got, api.Reply{Kind: api.Whole, Int: n}) {
			t.Errorf("P4.3: Number(%d) is %v", n, got)
		}
	}
	if got := List(); got.Kind != api.Many || got.Int != 0 || got.Text != "" || len(got.List) != 0 {
		t.Errorf("P4.3: List() is %v", got)
	}
	l := make([]string, 2000)
	for i := range l {
		l[i] = strconv.Itoa(i)
	}
	got := List(l...)
	for i, r := range got.List {
		if !reflect.DeepEqual(r, api.Reply{Kind: api.Bulk, Text: l[i]}) {
			t.Fatalf("P4.3: List's number %d is %v", i, r)
		}
	}
	if got.Kind != api.Many || len(got.List) != len(l) {
		t.Errorf("P4.3: List of %d is a %d of %d", len(l), got.Kind, len(got.List))
	}
}

func TestNothingIsShared(t *testing.T) {
	l := []string{"a", "b"}
	r := List(l...)
	l[0] = "x"
	if !Same(r, List("a", "b")) {
		t.Error("R6: List keeps what it was given")
	}
	r.List[1] = Number(1)
	if l[1] != "b" {
		t.Error("R5: List's answer writes into what was given")
	}
	s := "*2\r\n*1\r\n:1\r\n*1\r\n:1\r\n"
	first, _, _ := Decode(s)
	first.List[0].List[0].Int = 9
	first.List[0].List = append(first.List[0].List, Number(8))
	if !Same(first.List[1], many(Number(1))) {
		t.Error("R6: two lists of an answer share memory")
	}
	if second, _, _ := Decode(s); !Same(second, many(many(Number(1)), many(Number(1)))) {
		t.Error("R6: a later answer is another one")
	}
	for _, w := range writings() {
		was := copyOf(w.r)
		Encode(w.r)
		if !Same(w.r, was) {
			t.Errorf("R5: Encode changed what it was given: %.60q", w.text)
		}
	}
}

var (
	textLine  = regexp.MustCompile(`(?s)^[+-]([^\r\n]*)\r\n$`)
	wholeLine = regexp.MustCompile(`^:(0|-?[1-9][0-9]*)\r\n$`)
	sizeLine  = regexp.MustCompile(`^\$(-1|0|[1-9][0-9]*)\r\n$`)
	countLine = regexp.MustCompile(`^\*(0|[1-9][0-9]*)\r\n$`)
)

// plain reads a writing as simply as may be: what Decode is held against. It is the place behind the reply at s's place at.
func plain(s string, at, within int) (api.Reply, int, api.Errno) {
	end := at
	for ; end == at || s[end-1] != '\n'; end++ {
		if end == len(s) && end-at < 512 {
			return api.Reply{}, 0, api.ErrReplyShort
		}
		if end-at == 512 || end == at && !strings.Contains("+-:$*", s[at:at+1]) || end == at && s[at] == '*' && within == 4 {
			return api.Reply{}, 0, api.ErrReplyForm
		}
	}
	line := s[at:end]
	if found := textLine.FindStringSubmatch(line); found != nil {
		return api.Reply{Kind: strings.Index(" +-", line[:1]), Text: found[1]}, end, api.OK
	}
	if found := wholeLine.FindStringSubmatch(line); found != nil {
		if n, err := strconv.ParseInt(found[1], 10, 64); err == nil {
			return Number(int(n)), end, api.OK
		}
	}
	if found := sizeLine.FindStringSubmatch(line); found != nil {
		if n, err := strconv.ParseInt(found[1], 10, 64); err == nil && n <= 65536 {
			return plainBytes(s, end, int(n))
		}
	}
	if found := countLine.FindStringSubmatch(line); found != nil {
		if n, err := strconv.ParseInt(found[1], 10, 64); err == nil && n <= 1024 {
			return plainList(s, end, int(n), within+1)
		}
	}
	return api.Reply{}, 0, api.ErrReplyForm
}

func plainBytes(s string, at, size int) (api.Reply, int, api.Errno) {
	if size < 0 {
		return none(), at, api.OK
	}
	end := at + size
	if len(s) > end && s[end] != 13 || len(s) > end+1 && s[end+1] != 10 {
		return api.Reply{}, 0, api.ErrReplyForm
	}
	if len(s) < end+2 {
		return api.Reply{}, 0, api.ErrReplyShort
	}
	return Text(s[at:end]), end + 2, api.OK
}

func plainList(s string, at, n, within int) (api.Reply, int, api.Errno) {
	all := many()
	for range n {
		r, end, e := plain(s, at, within)
		if e != api.OK {
			return api.Reply{}, 0, e
		}
		all.List, at = append(all.List, r), end
	}
	return all, at, api.OK
}

func checkPlain(t *testing.T, s string) {
	t.Helper()
	got, n, e := Decode(s)
	want, wantN, wantE := plain(s, 0, 0)
	if n != wantN || e != wantE || !reflect.DeepEqual(got, want) {
		t.Fatalf("P4.2: %.80q: %.80v, %d, %d; want %.80v, %d, %d", s, got, n, e, want, wantN, wantE)
	}
	if e != api.OK {
		return
	}
	if text, ok := Encode(got); text != s[:n] || !ok {
		t.Fatalf("P4.1: %.80q is read, but written %.80q, %v", s[:n], text, ok)
	}
}

func TestAllShortTexts(t *testing.T) {
	alphabet := "+-:$*012\r\na"
	for n := range 7 {
		s := make([]byte, n)
		at := make([]int, n)
		for more := true; more; {
			for i := range s {
				s[i] = alphabet[at[i]]
			}
			checkPlain(t, string(s))
			more = false
			for i := 0; i < n && !more; i++ {
				at[i] = (at[i] + 1) % len(alphabet)
				more = at[i] > 0
			}
		}
	}
}

func TestAllRowsOfParts(t *testing.T) {
	parts := []string{"+a\r\n", "-\r\n", ":1\r\n", "$-1\r\n", "$1\r\n", "\r\n\r\n", "*0\r\n", "*1\r\n", "*2\r\n", "*"}
	rows := []string{""}
	for range 6 {
		var longer []string
		for _, row := range rows {
			checkPlain(t, row)
			for _, part := range parts {
				if _, _, e := Decode(row); e == api.ErrReplyShort {
					longer = append(longer, row+part)
				}
			}
		}
		rows = longer
	}
}

// chance is numbers that look like chance and are the same at every run.
func chance(seed uint32) func() int {
	return func() int {
		seed = seed*1664525 + 1013904223
		return int(seed >> 8)
	}
}

func textByChance(next func() int, most int, line bool) string {
	var text []byte
	for range next() % (most + 1) {
		if c := byte(next() % 256); !line || c != 13 && c != 10 {
			text = append(text, c)
		}
	}
	return string(text)
}

func replyByChance(next func() int, room int) api.Reply {
	switch kind := 1 + next()%6; {
	case kind == api.Simple:
		return simple(textByChance(next, 509, true))
	case kind == api.Fault:
		return Wrong(textByChance(next, 9, true))
	case kind == api.Whole:
		return Number((next()<<40 ^ next()<<20 ^ next()) >> (next() % 64) * (1 - next()%2*2))
	case kind == api.Bulk:
		return Text(textByChance(next, 600, false))
	case kind == api.Many && room > 0:
		all := many()
		for range next() % 7 {
			all.List = append(all.List, replyByChance(next, room-1))
		}
		return all
	}
	return none()
}

func TestWrittenIsRead(t *testing.T) {
	next := chance(4)
	for range 2000 {
		r := replyByChance(next, 4)
		text, ok := Encode(r)
		if !ok {
			t.Fatalf("P4.1: no writing of %.80v", r)
		}
		got, n, e := Decode(text + textByChance(next, 20, false))
		if e != api.OK || n != len(text) || !Same(got, r) || !reflect.DeepEqual(got, r) {
			t.Fatalf("P4.4: %.80q is read as %.80v, %d, %d", text, got, n, e)
		}
		checkError(t, text[:next()%len(text)], api.ErrReplyShort)
		checkPlain(t, text)
	}
}

func TestSpoiltWritings(t *testing.T) {
	next := chance(44)
	signs := "+-:$*0159\r\n?\x00\xff"
	for range 20000 {
		text, _ := Encode(replyByChance(next, 4))
		spoilt := []byte(text[:min(len(text), 300)])
		for range 1 + next()%3 {
			spoilt[next()%len(spoilt)] = signs[next()%len(signs)]
		}
		checkPlain(t, string(spoilt))
		at := next() % len(text)
		checkPlain(t, text[:at]+text[min(len(text), at+1+next()%3):])
	}
}
