package resp

import (
	"fmt"
	"regexp"
	"slices"
	"strconv"
	"strings"
	"testing"

	"marshalyard/api"
)

// plain reads a stream as simply as may be, on texts: what the parser is held against.
type plain struct {
	stream string
	fault  api.Errno
}

var (
	countLine = regexp.MustCompile(`^\*(0|[1-9][0-9]*)\r\n$`)
	sizeLine  = regexp.MustCompile(`^\$(0|[1-9][0-9]*)\r\n$`)
)

// numberIn is what a line says by one of the patterns, if it is at most most.
func numberIn(pattern *regexp.Regexp, line string, most int) (int, bool) {
	found := pattern.FindStringSubmatch(line)
	if found == nil {
		return 0, false
	}
	n, err := strconv.Atoi(found[1])
	return n, err == nil && n <= most
}

// lineAt is the line at s's front, or none if its 10 is not there.
func lineAt(s string) (string, api.Errno) {
	for i := 0; i < len(s) && i < 512; i++ {
		if s[i] == 10 {
			return s[:i+1], api.OK
		}
	}
	if len(s) >= 512 {
		return "", api.ErrRespLine
	}
	return "", api.OK
}

// argumentAt is the argument at s's front, and how many bytes it takes up: 0, if it is not all there.
func argumentAt(s string) (string, int, api.Errno) {
	if s != "" && s[0] != '$' {
		return "", 0, api.ErrRespDollar
	}
	line, e := lineAt(s)
	if e != api.OK || line == "" {
		return "", 0, e
	}
	size, ok := numberIn(sizeLine, line, 1024)
	if !ok {
		return "", 0, api.ErrRespBulk
	}
	whole := len(line) + size + 2
	if at := len(line) + size; len(s) > at && s[at] != 13 {
		return "", 0, api.ErrRespEnd
	}
	if len(s) >= whole && s[whole-1] != 10 {
		return "", 0, api.ErrRespEnd
	}
	if len(s) < whole {
		return "", 0, api.OK
	}
	return s[len(line) : len(line)+size], whole, api.OK
}

// wordsOf are a line's parts.
func wordsOf(line string) []string {
	line = strings.TrimSuffix(strings.TrimSuffix(line, "\n"), "\r")
	var l []string
	for _, part := range strings.Split(strings.ReplaceAll(line, "\t", " "), " ") {
		if part != "" {
			l = append(l, part)
		}
	}
	return l
}

// commandAt is the command at s's front, and how many bytes it takes up: 0, if it is not all there.
func commandAt(s string) ([]string, int, api.Errno) {
	line, e := lineAt(s)
	if e != api.OK || line == "" {
		return nil, 0, e
	}
	if line[0] != '*' {
		l := wordsOf(line)
		if len(l) > 32 {
			return nil, 0, api.ErrRespCount
		}
		return l, len(line), api.OK
	}
	many, ok := numberIn(countLine, line, 32)
	if !ok {
		return nil, 0, api.ErrRespCount
	}
	at := len(line)
	var l []string
	for range many {
		arg, n, e := argumentAt(s[at:])
		if e != api.OK || n == 0 {
			return nil, 0, e
		}
		l, at = append(l, arg), at+n
	}
	return l, at, api.OK
}

func (p *plain) feed(s string) {
	if p.fault == api.OK {
		p.stream += s
	}
}

func (p *plain) next() ([]string, bool, api.Errno) {
	for p.fault == api.OK {
		l, n, e := commandAt(p.stream)
		if e != api.OK {
			p.fault, p.stream = e, ""
			break
		}
		p.stream = p.stream[n:]
		if len(l) > 0 || n == 0 {
			return l, n > 0, api.OK
		}
	}
	return nil, false, p.fault
}

// both are a parser and what it is held against.
type both struct {
	parser *Parser
	plain  plain
	log    string
}

func newBoth() *both { return &both{parser: New()} }

func (b *both) feed(s string) {
	b.log += fmt.Sprintf(" %.60q", s)
	piece := []byte(s)
	b.parser.Feed(piece)
	// What is fed is copied: what becomes of it is not seen.
	for i := range piece {
		piece[i] = '*'
	}
	b.plain.feed(s)
}

// next tells whether there may be more.
func (b *both) next(t *testing.T) bool {
	t.Helper()
	got, is, e := b.parser.Next()
	want, wantIs, wantE := b.plain.next()
	if !slices.Equal(got, want) || is != wantIs || e != wantE {
		t.Fatalf("P3.2: fed%s: Next is %.80q, %v, %d; want %.80q, %v, %d", b.log, got, is, e, want, wantIs, wantE)
	}
	b.left(t)
	for i := range got {
		got[i] = "mine"
	}
	return is
}

func (b *both) left(t *testing.T) {
	t.Helper()
	if got, want := b.parser.Left(), len(b.plain.stream); got != want {
		t.Fatalf("P3.3: fed%s: Left is %d, want %d", b.log, got, want)
	}
}

// drain asks until there is nothing more, and once again.
func (b *both) drain(t *testing.T) {
	t.Helper()
	b.left(t)
	for b.next(t) {
	}
	b.next(t)
}

// all is what Next tells of a stream fed at once.
func all(s string) ([][]string, api.Errno) {
	p := New()
	p.Feed([]byte(s))
	return rest(p)
}

func rest(p *Parser) ([][]string, api.Errno) {
	var l [][]string
	for {
		args, is, e := p.Next()
		if !is {
			return l, e
		}
		l = append(l, args)
	}
}

func same(a, b [][]string) bool {
	return slices.EqualFunc(a, b, slices.Equal[[]string])
}

var (
	x511  = strings.Repeat("x", 511)
	x510  = strings.Repeat("x", 510)
	b1024 = strings.Repeat("\r\n$*", 256)
)

// most is the greatest command that there is.
func most() []string {
	return slices.Repeat([]string{b1024}, 32)
}

// streams have all that the chapter names, right and wrong.
func streams() []string {
	return []string{
		"",
		"*1\r\n$4\r\nPING\r\n",
		"get a\r\n",
		"*1\r\n+", "*01\r\n", "*1\r\n$2\r\nabc",
		"*2\r\n$3\r\nGET\r\n$0\r\n\r\n*0\r\n\r\n  get\ta \r\nrest",
		"*2\r\n$2\r\n\r\n\r\n$4\r\n*1\r\n\r\n*1\r\n$1\r\n\n\r\nx",
		"\n\r\n \n\t\r\n*0\r\n*0\r\nping\n\n\n",
		"a\rb\r\r\n\r\r\n\r x\n",
		"\x00\xff\x0b\x0c \xc2\xa0\t\xc2\x85\r\n",
		" *1\r\n$4\r\n+OK\r\n-no\n:1\n",
		"ping\r\n*2\r\n$1\r\na\r\n$1\r\nb\rx",
		"ping\r\n*2\r\n$1\r\na\r\n*1\r\n",
		"ping\r\n*2\r\n$1\r\na\r\n$01\r\n",
		"ping\r\n*2\r\n$1\r\na\r\n\n",
		"ping\r\n*2\n", "ping\r\n*\r\n", "ping\r\n*\n", "ping\r\n*-1\r\n", "ping\r\n*33\r\n", "*1\r\n$-1\r\n", "*1\r\n$1025\r\n", "*1\r\n$\r\n", "*1\r\n$1\n",
		"*1\r\n$3\r\nab\r\n\r\n", "*1\r\n$0\r\n\n", "*1\r\n$0\r\n\r\r", "*1\r\n$1\r\n\r\n\r\n",
		strings.Repeat("a ", 32) + "\n" + strings.Repeat("\ta", 33) + "\r\nping\n",
		x511 + "\n" + x510 + "\r\n" + x511 + "x\n",
		"*" + strings.Repeat("1", 511), "*" + strings.Repeat("1", 510) + "\n",
		"*1\r\n$" + strings.Repeat("1", 511), "*1\r\n$" + strings.Repeat("1", 510) + "\n",
		"*1\r\n+" + x511, "*2\r\n$1\r\na\r\nb" + x511 + x511, "*1\r\n*" + x511 + "\n",
	}
}

func TestExamples(t *testing.T) {
	cases := []struct {
		fed  string
		want [][]string
		e    api.Errno
	}{
		{"*1\r\n$4\r\nPING\r\n", [][]string{{"PING"}}, api.OK},
		{"get a\r\n", [][]string{{"get", "a"}}, api.OK},
		{"*1\r\n+", nil, api.ErrRespDollar},
		{"*01\r\n", nil, api.ErrRespCount},
		{"*1\r\n$2\r\nabc", nil, api.ErrRespEnd},
	}
	for _, c := range cases {
		if got, e := all(c.fed); !same(got, c.want) || e != c.e {
			t.Errorf("P3.2: %q: %q, %d; want %q, %d", c.fed, got, e, c.want, c.e)
		}
	}
}

func TestNew(t *testing.T) {
	p := New()
	if p == nil || p.Left() != 0 {
		t.Fatal("P3.1: New was fed something")
	}
	if l, is, e := p.Next(); len(l) != 0 || is || e != api.OK {
		t.Errorf("P3.1: Next of nothing is %q, %v, %d", l, is, e)
	}
	q := New()
	p.Feed([]byte("a\n"))
	if q.Left() != 0 || p.Left() != 2 {
		t.Error("P3.1: two parsers have one stream")
	}
}

func TestFeedNothing(t *testing.T) {
	p := New()
	p.Feed(nil)
	p.Feed([]byte("pi"))
	p.Feed([]byte{})
	p.Feed([]byte("ng\n"))
	if got, e := rest(p); !same(got, [][]string{{"ping"}}) || e != api.OK || p.Left() != 0 {
		t.Errorf("P3.1: %q, %d, %d left", got, e, p.Left())
	}
}

func TestFeedCopies(t *testing.T) {
	piece := []byte("get a\nget b\n")[:6]
	p := New()
	p.Feed(piece)
	copy(piece, "xxxxxx")
	p.Feed([]byte("get c\n"))
	if got := string(piece[:12]); got != "xxxxxxget b\n" {
		t.Errorf("R5: Feed wrote into what it was given: %q", got)
	}
	if got, e := rest(p); !same(got, [][]string{{"get", "a"}, {"get", "c"}}) || e != api.OK {
		t.Errorf("R6: what was fed is not a copy: %q, %d", got, e)
	}
}

func TestFirstKind(t *testing.T) {
	cases := []struct {
		fed  string
		want [][]string
	}{
		{"*1\r\n$0\r\n\r\n", [][]string{{""}}},
		{"*2\r\n$3\r\nGET\r\n$1\r\na\r\n", [][]string{{"GET", "a"}}},
		{"*1\r\n$2\r\n\r\n\r\n", [][]string{{"\r\n"}}},
		{"*1\r\n$3\r\n\n\r\x00\r\n", [][]string{{"\n\r\x00"}}},
		{"*2\r\n$4\r\n*1\r\n\r\n$4\r\n$1\r\n\r\n", [][]string{{"*1\r\n", "$1\r\n"}}},
		{"*1\r\n$3\r\na b\r\n", [][]string{{"a b"}}},
		{"*1\r\n$2\r\n\xff\xfe\r\n", [][]string{{"\xff\xfe"}}},
		{"*1\r\n$10\r\n0123456789\r\n", [][]string{{"0123456789"}}},
		{"*1\r\n$1\r\na\r\n*1\r\n$1\r\nb\r\n", [][]string{{"a"}, {"b"}}},
		{"*1\r\n$1\r\na\r\nb\n*1\r\n$1\r\nc\r\n", [][]string{{"a"}, {"b"}, {"c"}}},
		{"*1\r\n$1024\r\n" + b1024 + "\r\n", [][]string{{b1024}}},
		{"*32\r\n" + strings.Repeat("$1\r\na\r\n", 32), [][]string{slices.Repeat([]string{"a"}, 32)}},
	}
	for _, c := range cases {
		if got, e := all(c.fed); !same(got, c.want) || e != api.OK {
			t.Errorf("P3.2: %.60q: %.60q, %d", c.fed, got, e)
		}
	}
}

func TestSecondKind(t *testing.T) {
	cases := []struct {
		fed  string
		want [][]string
	}{
		{"ping\n", [][]string{{"ping"}}},
		{"ping\r\n", [][]string{{"ping"}}},
		{"  get\t \ta  \r\n", [][]string{{"get", "a"}}},
		{"\tget\n", [][]string{{"get"}}},
		{"a\r\r\n", [][]string{{"a\r"}}},
		{"a\rb\n", [][]string{{"a\rb"}}},
		{"\r \n", [][]string{{"\r"}}},
		{"a \r\n", [][]string{{"a"}}},
		{"a \r\r\n", [][]string{{"a", "\r"}}},
		{" *1\r\n", [][]string{{"*1"}}},
		{"$1\r\na\r\n", [][]string{{"$1"}, {"a"}}},
		{"a*1\r\n", [][]string{{"a*1"}}},
		{"a\x0bb\x0cc\x00d\n", [][]string{{"a\x0bb\x0cc\x00d"}}},
		{"a\xc2\xa0b\xc2\x85c\xe2\x80\xa8d\n", [][]string{{"a\xc2\xa0b\xc2\x85c\xe2\x80\xa8d"}}},
		{"\xc2 \xe2\x80\t\xff\x85\xa0\n", [][]string{{"\xc2", "\xe2\x80", "\xff\x85\xa0"}}},
		{"\"a b\" 'c\n", [][]string{{"\"a", "b\"", "'c"}}},
		{x511 + "\n", [][]string{{x511}}},
		{x510 + "\r\n", [][]string{{x510}}},
		{strings.Repeat("a ", 32) + "\n", [][]string{slices.Repeat([]string{"a"}, 32)}},
	}
	for _, c := range cases {
		if got, e := all(c.fed); !same(got, c.want) || e != api.OK {
			t.Errorf("P3.2: %.60q: %.60q, %d", c.fed, got, e)
		}
	}
}

func TestWithoutArguments(t *testing.T) {
	for _, empty := range []string{"\n", "\r\n", " \n", "\t\r\n", " \t \t\n", "*0\r\n", strings.Repeat(" ", 511) + "\n", strings.Repeat("\n*0\r\n", 50)} {
		if got, e := all(empty); len(got) != 0 || e != api.OK {
			t.Errorf("P3.2: %q: %q, %d", empty, got, e)
		}
		p := New()
		p.Feed([]byte(empty + "ping\n" + empty))
		if p.Left() != 2*len(empty)+5 {
			t.Errorf("P3.3: %q: %d left ahead of Next", empty, p.Left())
		}
		if l, is, e := p.Next(); !slices.Equal(l, []string{"ping"}) || !is || e != api.OK || p.Left() != len(empty) {
			t.Errorf("P3.2: %q, ping: %q, %v, %d; %d left", empty, l, is, e, p.Left())
		}
		if l, is, e := p.Next(); len(l) != 0 || is || e != api.OK || p.Left() != 0 {
			t.Errorf("P3.3: %q is not passed over: %q, %v, %d; %d left", empty, l, is, e, p.Left())
		}
	}
}

func TestErrors(t *testing.T) {
	cases := []struct {
		fed  string // the error is there with the last byte, not ahead of it
		want api.Errno
	}{
		{strings.Repeat("a", 512), api.ErrRespLine},
		{strings.Repeat(" ", 512), api.ErrRespLine},
		{strings.Repeat("\r", 512), api.ErrRespLine},
		{"*" + strings.Repeat("1", 511), api.ErrRespLine},
		{"*x" + strings.Repeat("1", 510), api.ErrRespLine},
		{"$" + strings.Repeat("1", 511), api.ErrRespLine},
		{"*1\r\n$" + strings.Repeat("1", 511), api.ErrRespLine},
		{"*2\r\n$1\r\na\r\n$" + x511, api.ErrRespLine},

		{"*1\r\n+", api.ErrRespDollar}, {"*1\r\n*", api.ErrRespDollar}, {"*1\r\n\n", api.ErrRespDollar}, {"*1\r\n\r", api.ErrRespDollar},
		{"*1\r\n ", api.ErrRespDollar}, {"*1\r\n1", api.ErrRespDollar}, {"*1\r\n\x00", api.ErrRespDollar}, {"*1\r\n\xff", api.ErrRespDollar},
		{"*2\r\n$1\r\na\r\nb", api.ErrRespDollar}, {"*2\r\n$1\r\na\r\n\r", api.ErrRespDollar}, {"*3\r\n$0\r\n\r\n$0\r\n\r\n*", api.ErrRespDollar},

		{"*\n", api.ErrRespCount}, {"*\r\n", api.ErrRespCount}, {"*1\n", api.ErrRespCount}, {"*01\r\n", api.ErrRespCount}, {"*00\r\n", api.ErrRespCount}, {"*0\n", api.ErrRespCount},
		{"*+1\r\n", api.ErrRespCount}, {"*-1\r\n", api.ErrRespCount}, {"*-0\r\n", api.ErrRespCount}, {"* 1\r\n", api.ErrRespCount}, {"*1 \r\n", api.ErrRespCount}, {"*1\r\r\n", api.ErrRespCount}, {"*\r1\r\n", api.ErrRespCount},
		{"*x\r\n", api.ErrRespCount}, {"*1x\r\n", api.ErrRespCount}, {"*x1\r\n", api.ErrRespCount}, {"*1_0\r\n", api.ErrRespCount}, {"*0x1\r\n", api.ErrRespCount}, {"*1/\r\n", api.ErrRespCount}, {"*1:\r\n", api.ErrRespCount}, {"**1\r\n", api.ErrRespCount}, {"*٣\r\n", api.ErrRespCount},
		{"*33\r\n", api.ErrRespCount}, {"*320\r\n", api.ErrRespCount}, {"*4294967297\r\n", api.ErrRespCount}, {"*18446744073709551617\r\n", api.ErrRespCount}, {"*9223372036854775808\r\n", api.ErrRespCount},
		{"*" + strings.Repeat("9", 509) + "\r\n", api.ErrRespCount}, {"*" + strings.Repeat("0", 509) + "\r\n", api.ErrRespCount},
		{strings.Repeat("a ", 33) + "\n", api.ErrRespCount}, {strings.Repeat("a\t", 33) + "\r\n", api.ErrRespCount}, {strings.Repeat("a ", 32) + "\r\r\n", api.ErrRespCount}, {strings.Repeat(" a", 255) + "\n", api.ErrRespCount},

		{"*1\r\n$\n", api.ErrRespBulk}, {"*1\r\n$\r\n", api.ErrRespBulk}, {"*1\r\n$1\n", api.ErrRespBulk}, {"*1\r\n$01\r\n", api.ErrRespBulk}, {"*1\r\n$00\r\n", api.ErrRespBulk}, {"*1\r\n$0\n", api.ErrRespBulk},
		{"*1\r\n$+1\r\n", api.ErrRespBulk}, {"*1\r\n$-1\r\n", api.ErrRespBulk}, {"*1\r\n$ 1\r\n", api.ErrRespBulk}, {"*1\r\n$1 \r\n", api.ErrRespBulk}, {"*1\r\n$1\r\r\n", api.ErrRespBulk},
		{"*1\r\n$x\r\n", api.ErrRespBulk}, {"*1\r\n$1x\r\n", api.ErrRespBulk}, {"*1\r\n$1/\r\n", api.ErrRespBulk}, {"*1\r\n$1:\r\n", api.ErrRespBulk}, {"*1\r\n$$1\r\n", api.ErrRespBulk},
		{"*1\r\n$1025\r\n", api.ErrRespBulk}, {"*1\r\n$10240\r\n", api.ErrRespBulk}, {"*1\r\n$4294967297\r\n", api.ErrRespBulk}, {"*1\r\n$18446744073709551617\r\n", api.ErrRespBulk},
		{"*1\r\n$" + strings.Repeat("9", 509) + "\r\n", api.ErrRespBulk}, {"*2\r\n$1\r\na\r\n$b\r\n", api.ErrRespBulk},

		{"*1\r\n$2\r\nabc", api.ErrRespEnd}, {"*1\r\n$2\r\nab\rx", api.ErrRespEnd}, {"*1\r\n$2\r\nab\n", api.ErrRespEnd}, {"*1\r\n$2\r\nab\r\r", api.ErrRespEnd},
		{"*1\r\n$0\r\nx", api.ErrRespEnd}, {"*1\r\n$0\r\n\n", api.ErrRespEnd}, {"*1\r\n$0\r\n\rx", api.ErrRespEnd}, {"*1\r\n$0\r\n*", api.ErrRespEnd}, {"*1\r\n$1\r\n\r\n", api.ErrRespEnd},
		{"*2\r\n$1\r\na\r\n$1\r\nbc", api.ErrRespEnd}, {"*1\r\n$1024\r\n" + b1024 + "x", api.ErrRespEnd},
	}
	for _, c := range cases {
		for _, ahead := range []string{"", "\r\n", "*0\r\n"} {
			s := ahead + c.fed
			p := New()
			p.Feed([]byte(s[:len(s)-1]))
			if l, is, e := p.Next(); len(l) != 0 || is || e != api.OK {
				t.Errorf("P3.2: %.60q but its last byte: %q, %v, %d", s, l, is, e)
			}
			if p.Left() != len(c.fed)-1 {
				t.Errorf("P3.3: %.60q but its last byte: %d left", s, p.Left())
			}
			p.Feed([]byte(s[len(s)-1:]))
			checkFault(t, p, s, c.want)
			p = New()
			p.Feed([]byte(s + "\r\n*1\r\n$4\r\nPING\r\n"))
			checkFault(t, p, s+" and more", c.want)
		}
	}
}

// checkFault sees that the error is told, and told again whatever is fed.
func checkFault(t *testing.T, p *Parser, s string, want api.Errno) {
	t.Helper()
	for _, more := range []string{"", "ping\n", "*1\r\n$4\r\nPING\r\n", strings.Repeat("x", 600), "*x\r\n"} {
		if l, is, e := p.Next(); len(l) != 0 || is || e != want {
			t.Errorf("P3.2: %.60q: %q, %v, %d; want %d", s, l, is, e, want)
		}
		if p.Left() != 0 {
			t.Errorf("P3.3: %.60q: %d left behind an error", s, p.Left())
		}
		p.Feed([]byte(more))
		if p.Left() != 0 {
			t.Errorf("P3.1: %.60q: behind an error %d are fed", s, p.Left())
		}
	}
}

func TestErrorBehindCommands(t *testing.T) {
	s := "get a\r\n*1\r\n$1\r\nb\r\n*x\r\nping\r\n"
	p := New()
	p.Feed([]byte(s))
	for _, want := range [][]string{{"get", "a"}, {"b"}} {
		if l, is, e := p.Next(); !slices.Equal(l, want) || !is || e != api.OK {
			t.Errorf("P3.2: %q, %v, %d; want %q ahead of the error", l, is, e, want)
		}
	}
	if p.Left() != 10 {
		t.Errorf("P3.3: %d left ahead of an error that is not told", p.Left())
	}
	p.Feed([]byte("x"))
	if p.Left() != 11 {
		t.Errorf("P3.1: %d left: the error was not told when more was fed", p.Left())
	}
	checkFault(t, p, s, api.ErrRespCount)
}

func TestDollarAheadOfLine(t *testing.T) {
	for _, ahead := range []string{"*1\r\n", "*2\r\n$1\r\na\r\n", "ping\n*32\r\n"} {
		for _, first := range []string{"+", "*", "b", "\r", "\n", " ", "\x00", "\xff"} {
			for _, more := range []string{"", x510, x511, x511 + "x", x511 + x511, x510 + "\n", x511 + "\n", x511 + "x\n"} {
				checkPieces(t, ahead+first+more, api.ErrRespDollar)
			}
		}
		for _, more := range []string{x511, strings.Repeat("1", 511), x511 + "x", x511 + "\n"} {
			checkPieces(t, ahead+"$"+more, api.ErrRespLine)
		}
		checkPieces(t, ahead+"$"+x510, api.OK)
		checkPieces(t, ahead+"$"+x510+"\n", api.ErrRespBulk)
	}
}

// checkPieces sees that the stream's error is the same, fed at once, cut at every place, and byte by byte, asked behind each piece or not.
func checkPieces(t *testing.T, s string, want api.Errno) {
	t.Helper()
	whole, e := all(s)
	if e != want {
		t.Fatalf("P3.2: %.60q of %d bytes: %d, want %d", s, len(s), e, want)
	}
	for i := range len(s) + 1 {
		samePieces(t, []string{s[:i], s[i:]}, whole, want)
	}
	samePieces(t, bytesOf(s), whole, want)
}

// bytesOf are pieces of one byte each.
func bytesOf(s string) []string {
	var pieces []string
	for i := range len(s) {
		pieces = append(pieces, s[i:i+1])
	}
	return pieces
}

// samePieces feeds the pieces to two parsers, of which one is asked behind each piece, the other behind the last alone.
func samePieces(t *testing.T, pieces []string, want [][]string, e api.Errno) {
	t.Helper()
	asked, silent := New(), New()
	var got [][]string
	var f api.Errno
	for _, piece := range pieces {
		asked.Feed([]byte(piece))
		silent.Feed([]byte(piece))
		var l [][]string
		l, f = rest(asked)
		got = append(got, l...)
	}
	if !same(got, want) || f != e {
		t.Fatalf("P3.5: %.60q in %d pieces, asked behind each: %.60q, %d; want %.60q, %d", strings.Join(pieces, ""), len(pieces), got, f, want, e)
	}
	if got, f = rest(silent); !same(got, want) || f != e {
		t.Fatalf("P3.5: %.60q in %d pieces: %.60q, %d; want %.60q, %d", strings.Join(pieces, ""), len(pieces), got, f, want, e)
	}
	if asked.Left() != silent.Left() {
		t.Fatalf("P3.5: %.60q in %d pieces: %d left, asked behind each; else %d", strings.Join(pieces, ""), len(pieces), asked.Left(), silent.Left())
	}
}

func TestLeft(t *testing.T) {
	p := New()
	steps := []struct {
		fed    string
		before int
		want   []string
		after  int
	}{
		{"*1\r\n$1\r\n", 8, nil, 8},
		{"a\r", 10, nil, 10},
		{"\nget b\nx", 18, []string{"a"}, 7},
		{"", 7, []string{"get", "b"}, 1},
		{"\n\n*0\r\n*", 8, []string{"x"}, 6},
		{"", 6, nil, 1},
		{"0\r\n\n", 5, nil, 0},
		{"*2\r\n$0\r\n\r\n", 10, nil, 10},
		{"$0\r\n\r\n", 16, []string{"", ""}, 0},
	}
	for i, s := range steps {
		p.Feed([]byte(s.fed))
		if p.Left() != s.before {
			t.Errorf("P3.3: step %d: %d left ahead of Next, want %d", i, p.Left(), s.before)
		}
		l, is, e := p.Next()
		if !slices.Equal(l, s.want) || is != (s.want != nil) || e != api.OK || p.Left() != s.after {
			t.Errorf("P3.3: step %d: %q, %v, %d; %d left, want %q, %d left", i, l, is, e, p.Left(), s.want, s.after)
		}
	}
}

func TestCommand(t *testing.T) {
	cases := []struct {
		args []string
		want string
	}{
		{[]string{"a", "bc"}, "*2\r\n$1\r\na\r\n$2\r\nbc\r\n"},
		{[]string{"PING"}, "*1\r\n$4\r\nPING\r\n"},
		{[]string{""}, "*1\r\n$0\r\n\r\n"},
		{[]string{"\r\n", "\x00\xff"}, "*2\r\n$2\r\n\r\n\r\n$2\r\n\x00\xff\r\n"},
		{[]string{"a b", "ä"}, "*2\r\n$3\r\na b\r\n$2\r\nä\r\n"},
		{[]string{}, "*0\r\n"},
		{nil, "*0\r\n"},
		{slices.Repeat([]string{""}, 100), "*100\r\n" + strings.Repeat("$0\r\n\r\n", 100)},
		{[]string{strings.Repeat("x", 1025)}, "*1\r\n$1025\r\n" + strings.Repeat("x", 1025) + "\r\n"},
	}
	for _, c := range cases {
		was := slices.Clone(c.args)
		if got := Command(c.args); got != c.want {
			t.Errorf("P3.4: Command(%.60q) is %.60q", c.args, got)
		}
		if !slices.Equal(c.args, was) {
			t.Errorf("R5: Command changed %q", was)
		}
	}
}

func TestCommandIsToldAsItWas(t *testing.T) {
	lists := [][]string{{""}, {"a"}, {"", ""}, {"*1\r\n", "$1\r\n", "\r\n", "\n", "\r", " ", "\t"}, {b1024}, {strings.Repeat("x", 1023), ""}, most()}
	next := chance(7)
	for range 300 {
		var l []string
		for range 1 + next()%32 {
			arg := make([]byte, next()%40*(next()%27))
			for i := range arg {
				arg[i] = byte(next())
			}
			l = append(l, string(arg[:min(len(arg), 1024)]))
		}
		lists = append(lists, l)
	}
	stream := ""
	for _, l := range lists {
		s := Command(l)
		stream += s
		if got, e := all(s); !same(got, [][]string{l}) || e != api.OK {
			t.Errorf("P3.5: Command(%.60q) is told as %.60q, %d", l, got, e)
		}
	}
	if got, e := all(stream); !same(got, lists) || e != api.OK {
		t.Errorf("P3.5: all commands, one behind the other, are told otherwise: %d", e)
	}
	if got, e := all(Command(nil)); len(got) != 0 || e != api.OK {
		t.Errorf("P3.5: no argument is told as %q, %d", got, e)
	}
	if got, e := all(Command(slices.Repeat([]string{"a"}, 33))); len(got) != 0 || e != api.ErrRespCount {
		t.Errorf("P3.5: 33 arguments are told as %q, %d", got, e)
	}
	if got, e := all(Command([]string{b1024 + "x"})); len(got) != 0 || e != api.ErrRespBulk {
		t.Errorf("P3.5: 1025 bytes are told as %.60q, %d", got, e)
	}
}

func TestAnswersAreTheCallers(t *testing.T) {
	p := New()
	p.Feed([]byte("get a\nget b\n*1\r\n$1\r\nc\r\n"))
	first, _, _ := p.Next()
	first[0], first[1] = "x", "y"
	first = append(first, "z")
	second, _, _ := p.Next()
	p.Feed([]byte("get d\nget e\nget f\nget g\n"))
	third, _, _ := p.Next()
	if !slices.Equal(second, []string{"get", "b"}) || !slices.Equal(third, []string{"c"}) || !slices.Equal(first, []string{"x", "y", "z"}) {
		t.Errorf("R6: %q, %q, %q", first, second, third)
	}
}

// chance is numbers that look like chance and are the same at every run.
func chance(seed uint32) func() uint32 {
	return func() uint32 {
		seed = seed*1664525 + 1013904223
		return seed >> 8
	}
}

func TestAllShortStreams(t *testing.T) {
	alphabet := "*$01\r\n a"
	for n := range 7 {
		s := make([]byte, n)
		at := make([]int, n)
		for more := true; more; {
			for i := range s {
				s[i] = alphabet[at[i]]
			}
			b := newBoth()
			b.feed(string(s))
			b.drain(t)
			whole, e := all(string(s))
			samePieces(t, bytesOf(string(s)), whole, e)
			more = false
			for i := 0; i < n && !more; i++ {
				at[i] = (at[i] + 1) % len(alphabet)
				more = at[i] > 0
			}
		}
	}
}

func TestCutAtEveryPlace(t *testing.T) {
	for _, s := range streams() {
		_, e := all(s)
		checkPieces(t, s, e)
		for i := range len(s) + 1 {
			b := newBoth()
			b.feed(s[:i])
			b.drain(t)
			b.feed(s[i:])
			b.drain(t)
		}
	}
}

func TestCutAtTwoPlaces(t *testing.T) {
	for _, s := range streams() {
		if len(s) > 80 {
			continue
		}
		whole, e := all(s)
		for i := range len(s) + 1 {
			for j := i; j <= len(s); j++ {
				pieces := []string{s[:i], s[i:j], s[j:]}
				samePieces(t, pieces, whole, e)
				b := newBoth()
				for _, piece := range pieces {
					b.feed(piece)
					b.drain(t)
				}
			}
		}
	}
}

func TestByteByByte(t *testing.T) {
	s := Command(most()) + "ping\n"
	whole, e := all(s)
	samePieces(t, bytesOf(s), whole, e)
}

// someStream is a row of commands, mostly right, some with a wrong byte.
func someStream(next func() uint32) string {
	pieces := []string{"\n", "\r\n", "*0\r\n", "ping\n", " get\t a\r\n", "*1\r\n", "$1\r\n", "a\r\n", "$0\r\n\r\n", "*2\r\n$1\r\na\r\n$2\r\nbb\r\n", x510, "*1\r\n$" + x511}
	var s []byte
	for range next() % 8 {
		switch next() % 3 {
		case 0:
			s = append(s, pieces[next()%uint32(len(pieces))]...)
		default:
			l := make([]string, next()%5)
			for i := range l {
				l[i] = strings.Repeat(pieces[next()%uint32(len(pieces))], int(next()%9))
			}
			s = append(s, Command(l)...)
		}
	}
	if len(s) > 0 && next()%2 == 0 {
		s[next()%uint32(len(s))] = "*$01\r\n ax\x00"[next()%10]
	}
	return string(s)
}

func TestManyStreamsInPieces(t *testing.T) {
	next := chance(3)
	for range 1000 {
		b := newBoth()
		var pieces []string
		for range 1 + next()%4 {
			for s := someStream(next); s != ""; {
				n := min(len(s), 1+int(next()%30))
				pieces = append(pieces, s[:n])
				b.feed(s[:n])
				s = s[n:]
				b.left(t)
				for range next() % 3 {
					b.next(t)
				}
			}
		}
		b.drain(t)
		whole, e := all(strings.Join(pieces, ""))
		samePieces(t, pieces, whole, e)
	}
}

func TestLongStreams(t *testing.T) {
	p := New()
	p.Feed([]byte(strings.Repeat("\n*0\r\n", 500000) + "ping\n"))
	if got, e := rest(p); !same(got, [][]string{{"ping"}}) || e != api.OK || p.Left() != 0 {
		t.Errorf("P3.2: a million empty commands: %d, %d left", e, p.Left())
	}
	p = New()
	p.Feed([]byte(strings.Repeat("a b\n", 400000)))
	for i := range 200000 {
		l, is, e := p.Next()
		p.Feed([]byte("c d\n"))
		if !slices.Equal(l, []string{"a", "b"}) || !is || e != api.OK || p.Left() != 1600000 {
			t.Fatalf("P3.2: command %d of a long stream: %q, %v, %d; %d left", i, l, is, e, p.Left())
		}
	}
}
