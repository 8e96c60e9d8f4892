package point

import (
	"math"
	"strconv"
	"strings"
	"testing"

	"marshalyard/api"
)

// chance is a row of numbers that look like chance, the same at every run.
type chance uint64

func (c *chance) below(n int) int {
	*c = *c*6364136223846793005 + 1442695040888963407
	return int(uint64(*c)>>33) % n
}

// edgeParts are the parts at which something changes: around 0, at and just beyond MaxPart, where floats are no longer exact, the ends of int.
var edgeParts = []int{
	0, 1, -1, 2, -2, 3, 1023, 1024, -1024, 1025,
	api.MaxPart / 2, api.MaxPart/2 + 1, -api.MaxPart / 2, -api.MaxPart/2 - 1,
	api.MaxPart - 1, -api.MaxPart + 1, api.MaxPart, -api.MaxPart,
	api.MaxPart + 1, -api.MaxPart - 1, 2 * api.MaxPart, 1 << 32, -1 << 32, 1<<53 + 1, -1<<53 - 1,
	math.MaxInt, math.MaxInt - 1, math.MinInt, math.MinInt + 1,
}

func edgePoints() []api.Point {
	var all []api.Point
	for _, re := range edgeParts {
		for _, im := range edgeParts {
			all = append(all, api.Point{Re: re, Im: im})
		}
	}
	return all
}

// part is a part that is Right: of any size, small ones as likely as great ones.
func (c *chance) part() int {
	most := 1 << c.below(21)
	return c.below(2*most+1) - most
}

func (c *chance) point() api.Point { return api.Point{Re: c.part(), Im: c.part()} }

func plainRight(p api.Point) bool {
	return p.Re >= -1048576 && p.Re <= 1048576 && p.Im >= -1048576 && p.Im <= 1048576
}

// refusedOr is what Add and Times answer, if the parts, reckoned with whole numbers, are those of p.
func refusedOr(a, b, p api.Point) (api.Point, api.Errno) {
	if !plainRight(a) || !plainRight(b) || !plainRight(p) {
		return api.Point{}, api.ErrPointOver
	}
	return p, api.OK
}

func plainAdd(a, b api.Point) (api.Point, api.Errno) {
	return refusedOr(a, b, api.Point{Re: a.Re + b.Re, Im: a.Im + b.Im})
}

func plainTimes(a, b api.Point) (api.Point, api.Errno) {
	return refusedOr(a, b, api.Point{Re: a.Re*b.Re - a.Im*b.Im, Im: a.Re*b.Im + a.Im*b.Re})
}

// plainTurn goes quarter by quarter: i times Re + Im i is - Im + Re i; divided by i, it is Im - Re i.
func plainTurn(p api.Point, n int) api.Point {
	if !plainRight(p) {
		return api.Point{}
	}
	for n %= 4; n > 0; n-- {
		p = api.Point{Re: -p.Im, Im: p.Re}
	}
	for ; n < 0; n++ {
		p = api.Point{Re: p.Im, Im: -p.Re}
	}
	return p
}

func checkPair(t *testing.T, a, b api.Point) {
	t.Helper()
	want, wrong := plainAdd(a, b)
	if p, e := Add(a, b); p != want || e != wrong {
		t.Fatalf("P9.1: Add(%v, %v): %v, %v, not %v, %v", a, b, p, e, want, wrong)
	}
	want, wrong = plainTimes(a, b)
	if p, e := Times(a, b); p != want || e != wrong {
		t.Fatalf("P9.1: Times(%v, %v): %v, %v, not %v, %v", a, b, p, e, want, wrong)
	}
}

func TestRightAtTheEdges(t *testing.T) {
	for _, p := range edgePoints() {
		if Right(p) != plainRight(p) {
			t.Errorf("P9.1: Right(%v): %v", p, Right(p))
		}
	}
	for _, p := range []api.Point{{Re: 1048576}, {Re: -1048576}, {Im: 1048576}, {Im: -1048576}, {Re: 1048576, Im: -1048576}} {
		if !Right(p) {
			t.Errorf("P9.1: %v is Right", p)
		}
	}
	for _, p := range []api.Point{{Re: 1048577}, {Re: -1048577}, {Im: 1048577}, {Im: -1048577}, {Im: math.MinInt}, {Re: math.MaxInt}} {
		if Right(p) {
			t.Errorf("P9.1: %v is not Right", p)
		}
	}
}

func TestSumsAndProductsAtTheEdges(t *testing.T) {
	all := edgePoints()
	for _, a := range all {
		for _, b := range all {
			checkPair(t, a, b)
		}
	}
}

func TestSumsAndProductsOfAnyPoints(t *testing.T) {
	c := chance(91)
	told, over := 0, 0
	for range 200000 {
		a, b := c.point(), c.point()
		checkPair(t, a, b)
		if _, e := Times(a, b); e == api.OK {
			told++
		} else {
			over++
		}
	}
	if told < 10000 || over < 10000 {
		t.Error("products that are Right and that are not:", told, over)
	}
}

// Every product of small numbers is reckoned, and those of which a part comes to MaxPart or one beyond it.
func TestProductsJustRightAndJustNot(t *testing.T) {
	for re := -6; re <= 6; re++ {
		for im := -6; im <= 6; im++ {
			for other := range 13 * 13 {
				checkPair(t, api.Point{Re: re, Im: im}, api.Point{Re: other/13 - 6, Im: other%13 - 6})
			}
		}
	}
	cases := []struct {
		a, b, want api.Point
		e          api.Errno
	}{
		{api.Point{Re: 1024}, api.Point{Re: 1024}, api.Point{Re: 1048576}, api.OK},
		{api.Point{Re: 1024}, api.Point{Re: -1024}, api.Point{Re: -1048576}, api.OK},
		{api.Point{Im: 1024}, api.Point{Im: 1024}, api.Point{Re: -1048576}, api.OK},
		{api.Point{Re: 1024}, api.Point{Im: -1024}, api.Point{Im: -1048576}, api.OK},
		{api.Point{Re: 1024, Im: 1}, api.Point{Re: 1024, Im: 0}, api.Point{Re: 1048576, Im: 1024}, api.OK},
		{api.Point{Re: 1024, Im: 1}, api.Point{Re: 1024, Im: -1}, api.Point{}, api.ErrPointOver},            // 1048577
		{api.Point{Re: 1024, Im: 1}, api.Point{Re: 1, Im: 1024}, api.Point{Re: 0, Im: 0}, api.ErrPointOver}, // 1048577 i
		{api.Point{Re: 1, Im: 1024}, api.Point{Re: -1, Im: 1024}, api.Point{}, api.ErrPointOver},            // - 1048577
		{api.Point{Re: 1024, Im: 1}, api.Point{Re: -1, Im: -1024}, api.Point{}, api.ErrPointOver},           // - 1048577 i
		{api.Point{Re: 61681}, api.Point{Re: 17}, api.Point{}, api.ErrPointOver},                            // 1048577
		{api.Point{Re: 1048576}, api.Point{Re: 1048576}, api.Point{}, api.ErrPointOver},
		{api.Point{Re: 1048576, Im: 1048576}, api.Point{Re: 1048576, Im: 1048576}, api.Point{}, api.ErrPointOver},
		{api.Point{Re: 1048577}, api.Point{}, api.Point{}, api.ErrPointOver},
		{api.Point{}, api.Point{Im: math.MinInt}, api.Point{}, api.ErrPointOver},
		{api.Point{Re: 1, Im: 2}, api.Point{Re: 3, Im: -4}, api.Point{Re: 11, Im: 2}, api.OK},
	}
	for _, c := range cases {
		if p, e := Times(c.a, c.b); p != c.want || e != c.e {
			t.Errorf("P9.1: Times(%v, %v): %v, %v, not %v, %v", c.a, c.b, p, e, c.want, c.e)
		}
	}
}

func TestSumsJustRightAndJustNot(t *testing.T) {
	cases := []struct {
		a, b, want api.Point
		e          api.Errno
	}{
		{api.Point{Re: 1048575}, api.Point{Re: 1}, api.Point{Re: 1048576}, api.OK},
		{api.Point{Re: 1048576}, api.Point{Re: 1}, api.Point{}, api.ErrPointOver},
		{api.Point{Im: -1048575}, api.Point{Im: -1}, api.Point{Im: -1048576}, api.OK},
		{api.Point{Im: -1048576}, api.Point{Im: -1}, api.Point{}, api.ErrPointOver},
		{api.Point{Re: 5, Im: 1048576}, api.Point{Re: 5, Im: 1}, api.Point{}, api.ErrPointOver},
		{api.Point{Re: -1048576, Im: 5}, api.Point{Re: -1, Im: 5}, api.Point{}, api.ErrPointOver},
		{api.Point{Re: 1048577}, api.Point{Re: -1}, api.Point{}, api.ErrPointOver},
		{api.Point{Re: -1}, api.Point{Re: 1048577}, api.Point{}, api.ErrPointOver},
		{api.Point{Re: math.MaxInt}, api.Point{Re: math.MinInt}, api.Point{}, api.ErrPointOver},
		{api.Point{Re: 1048576, Im: -1048576}, api.Point{Re: -1048576, Im: 1048576}, api.Point{}, api.OK},
	}
	for _, c := range cases {
		if p, e := Add(c.a, c.b); p != c.want || e != c.e {
			t.Errorf("P9.1: Add(%v, %v): %v, %v, not %v, %v", c.a, c.b, p, e, c.want, c.e)
		}
	}
}

var edgeTurns = []int{math.MinInt, math.MinInt + 1, math.MinInt + 2, math.MinInt + 3, math.MaxInt, math.MaxInt - 1, math.MaxInt - 2, math.MaxInt - 3, 1 << 32, 1<<53 + 1}

func TestTurns(t *testing.T) {
	for _, p := range edgePoints() {
		for n := -9; n <= 9; n++ {
			if got := Turn(p, n); got != plainTurn(p, n) {
				t.Errorf("P9.2: Turn(%v, %d): %v", p, n, got)
			}
		}
		for _, n := range edgeTurns {
			if got := Turn(p, n); got != plainTurn(p, n) {
				t.Errorf("P9.2: Turn(%v, %d): %v", p, n, got)
			}
		}
	}
	for n, want := range map[int]api.Point{
		0: {Re: 3}, 1: {Im: 3}, 2: {Re: -3}, 3: {Im: -3}, 4: {Re: 3}, 6: {Re: -3},
		-1: {Im: -3}, -2: {Re: -3}, -3: {Im: 3}, -4: {Re: 3},
		math.MinInt: {Re: 3}, math.MinInt + 1: {Im: 3}, math.MaxInt: {Im: -3},
	} {
		if p := Turn(api.Point{Re: 3}, n); p != want {
			t.Errorf("P9.2: Turn of 3+0i by %d: %v, not %v", n, p, want)
		}
	}
}

func TestNorm(t *testing.T) {
	c := chance(92)
	all := edgePoints()
	for range 20000 {
		all = append(all, c.point())
	}
	for _, p := range all {
		want := 0
		if plainRight(p) {
			want = p.Re*p.Re + p.Im*p.Im
		}
		if Norm(p) != want {
			t.Errorf("P9.2: Norm(%v): %d, not %d", p, Norm(p), want)
		}
	}
	if n := Norm(api.Point{Re: -1048576, Im: 1048576}); n != 1<<41 {
		t.Error("P9.2: the greatest Norm:", n)
	}
}

// plainPrint is the chapter's sentence word by word.
func plainPrint(p api.Point) string {
	if !plainRight(p) {
		return ""
	}
	sign, im := "+", p.Im
	if im < 0 {
		sign, im = "-", -im
	}
	return strconv.FormatInt(int64(p.Re), 10) + sign + strconv.FormatInt(int64(im), 10) + "i"
}

func TestPrintAndBack(t *testing.T) {
	c := chance(93)
	all := edgePoints()
	for range 50000 {
		all = append(all, c.point())
	}
	for _, p := range all {
		s := Print(p)
		if s != plainPrint(p) {
			t.Errorf("P9.3: Print(%v): %q", p, s)
		}
		want, wrong := p, api.OK
		if !plainRight(p) {
			want, wrong = api.Point{}, api.ErrPointForm
		}
		if back, e := Parse(s); back != want || e != wrong {
			t.Errorf("P9.3, P9.4: Parse(%q): %v, %v", s, back, e)
		}
	}
	for s, p := range map[string]api.Point{
		"3-4i": {Re: 3, Im: -4}, "0+0i": {}, "-1-2i": {Re: -1, Im: -2}, "0-1i": {Im: -1}, "-7+0i": {Re: -7}, "10+20i": {Re: 10, Im: 20},
		"1048576-1048576i": {Re: 1048576, Im: -1048576}, "-1048576+1048576i": {Re: -1048576, Im: 1048576},
	} {
		if Print(p) != s {
			t.Errorf("P9.3: Print(%v): %q, not %q", p, Print(p), s)
		}
		if back, e := Parse(s); back != p || e != api.OK {
			t.Errorf("P9.3: Parse(%q): %v, %v", s, back, e)
		}
	}
}

func TestPrintOfNone(t *testing.T) {
	for _, p := range []api.Point{{Re: 1048577}, {Re: -1048577}, {Im: 1048577}, {Im: -1048577}, {Re: math.MinInt, Im: math.MaxInt}, {Im: math.MinInt}} {
		if s := Print(p); s != "" {
			t.Errorf("P9.3: Print(%v): %q", p, s)
		}
	}
}

func refuse(t *testing.T, s string) {
	t.Helper()
	if p, e := Parse(s); p != (api.Point{}) || e != api.ErrPointForm {
		t.Errorf("P9.3: Parse(%q): %v, %v", s, p, e)
	}
}

func TestTextsOfNoPoint(t *testing.T) {
	for _, s := range []string{
		"", "i", "+", "-", "+i", "-i", "0", "1", "1i", "1+", "1+i", "1-i", "+1i", "-1i", "1+2", "1-2", "1 2i",
		"+1+1i", "++1i", "1++2i", "1--2i", "1+-2i", "1-+2i", "--1+2i", "-+1+2i", "+-1+2i", "-1+2+3i", "1+2i+3i", "1+2-3i",
		"01+2i", "1+02i", "00+0i", "0+00i", "-01+2i", "1-02i", "-0+0i", "0-0i", "-0-0i", "-0+1i", "1-0i",
		"1048577+0i", "-1048577+0i", "0+1048577i", "0-1048577i", "1048577+1048577i",
		"9223372036854775807+0i", "-9223372036854775808+0i", "0-9223372036854775808i", "0+9223372036854775807i",
		"9223372036854775808+0i", "0+9223372036854775808i", "18446744073709551617+0i", "0+18446744073709551617i",
		"1" + strings.Repeat("0", 400) + "+0i", "0+" + strings.Repeat("9", 400) + "i", strings.Repeat("0", 400) + "1+0i",
		" 1+2i", "1 +2i", "1+ 2i", "1+2 i", "1+2i ", "1+2i\n", "\t1+2i", "1+2i\x00", "\x001+2i",
		"1+2j", "1+2I", "1+2", "1+2ii", "i1+2i", "1i+2i", "1+i2", "(1+2i)", "1+2i,",
		"1.0+2i", "1+2.0i", "1e3+2i", "0x1+2i", "1+0x2i", "1_0+2i", "1+2_0i", "a+bi", "1+ai", "a+1i",
		"\xff+1i", "1+\xffi", "\u0661+\u0662i", "1\u22122i", "\uff11+1i", "1+1\u2148", "NaN+NaNi", "Inf+Infi", "1+2\xe9",
	} {
		refuse(t, s)
	}
}

// Of a text that Print writes, each one that lies near it is read only if Print writes it too.
func TestTextsNearOnes(t *testing.T) {
	near := "0123456789+-iIj _.\x00\xff"
	c := chance(94)
	texts := []string{"0+0i", "3-4i", "-1-2i", "1048576-1048576i", "-1048576+1048576i", "-10+9i"}
	for range 100 {
		texts = append(texts, plainPrint(c.point()))
	}
	read := 0
	check := func(s string) {
		t.Helper()
		want, is := readPlainly(s)
		if !is {
			refuse(t, s)
			return
		}
		read++
		if p, e := Parse(s); p != want || e != api.OK {
			t.Errorf("P9.3: Parse(%q): %v, %v, not %v", s, p, e, want)
		}
	}
	for _, s := range texts {
		for i := range len(s) {
			check(s[:i] + s[i+1:])
			for j := range len(near) {
				check(s[:i] + near[j:j+1] + s[i:])
				check(s[:i] + near[j:j+1] + s[i+1:])
			}
		}
		for j := range len(near) {
			check(s + near[j:j+1])
		}
	}
	if read < 1000 {
		t.Error("too few of the near ones are points:", read)
	}
}

// readPlainly goes over the text byte by byte, without what the library reads numbers with.
func readPlainly(s string) (api.Point, bool) {
	re, rest, is := readPart(s)
	if !is || rest == "" || rest[0] != '+' && rest[0] != '-' {
		return api.Point{}, false
	}
	minus := rest[0] == '-'
	if rest[1:] == "" || rest[1] == '-' {
		return api.Point{}, false
	}
	im, rest, is := readPart(rest[1:])
	if !is || rest != "i" || minus && im == 0 {
		return api.Point{}, false
	}
	if minus {
		im = -im
	}
	return api.Point{Re: re, Im: im}, true
}

// readPart reads a part at the text's beginning, and tells what is behind it.
func readPart(s string) (int, string, bool) {
	n, at := 0, 0
	if s != "" && s[0] == '-' {
		at = 1
	}
	first := at
	for ; at < len(s) && s[at] >= '0' && s[at] <= '9'; at++ {
		n = min(n*10+int(s[at]-'0'), 1<<30)
	}
	if at == first || s[first] == '0' && (at > first+1 || first == 1) || n > 1048576 {
		return 0, "", false
	}
	if first == 1 {
		n = -n
	}
	return n, s[at:], true
}

// Every text of up to 5 bytes out of a few is held against the plain reader.
func TestAllShortTexts(t *testing.T) {
	few := "01+-i"
	texts := []string{""}
	read := 0
	for range 6 {
		var longer []string
		for _, s := range texts {
			want, is := readPlainly(s)
			p, e := Parse(s)
			if is && (p != want || e != api.OK) || !is && (p != (api.Point{}) || e != api.ErrPointForm) {
				t.Errorf("P9.3: Parse(%q): %v, %v", s, p, e)
			}
			if is {
				read++
			}
			for j := range len(few) {
				longer = append(longer, s+few[j:j+1])
			}
		}
		texts = longer
	}
	// Of 4 bytes: 0 or 1, +0 or +1 or -1. Of 5: those behind -1; 10 or 11 ahead; +10, +11, -10, -11 behind 0 or 1.
	if want := 2*3 + 3 + 2*3 + 2*4; read != want {
		t.Error("P9.3: texts of points among all short ones:", read, "not", want)
	}
}

func TestNormOfAProduct(t *testing.T) {
	c := chance(95)
	told := 0
	for range 100000 {
		a, b := c.point(), c.point()
		p, e := Times(a, b)
		if e != api.OK {
			continue
		}
		told++
		if Norm(p) != Norm(a)*Norm(b) {
			t.Fatalf("P9.4: Norm of %v times %v: %d", a, b, Norm(p))
		}
	}
	if told < 10000 {
		t.Error("too few products are Right:", told)
	}
}

func TestTurnsBehindTurns(t *testing.T) {
	c := chance(96)
	turns := append([]int{-5, -4, -3, -2, -1, 0, 1, 2, 3, 4, 5}, edgeTurns...)
	for range 500 {
		p := c.point()
		if Turn(p, 4) != p || Turn(p, 0) != p || Turn(p, -4) != p {
			t.Fatalf("P9.4: Turn of %v by 4", p)
		}
		quarter, _ := Times(p, api.Point{Im: 1})
		if Turn(p, 1) != quarter {
			t.Fatalf("P9.2: Turn of %v by 1 is not i times it", p)
		}
		for _, m := range turns {
			for _, n := range turns {
				// Where m + n wraps round, it is still the same modulo 4.
				if got := Turn(Turn(p, m), n); got != Turn(p, m+n) {
					t.Fatalf("P9.4: Turn of %v by %d, and then by %d: %v", p, m, n, got)
				}
			}
		}
	}
}

func TestOrderAndSumsOfProducts(t *testing.T) {
	c := chance(97)
	told := 0
	for range 100000 {
		a, b, d := c.point(), c.point(), c.point()
		sum, e1 := Add(b, d)
		if back, e := Add(d, b); back != sum || e != e1 {
			t.Fatalf("P9.4: the order of %v and %v counts in a sum", b, d)
		}
		product, e2 := Times(a, b)
		if back, e := Times(b, a); back != product || e != e2 {
			t.Fatalf("P9.4: the order of %v and %v counts in a product", a, b)
		}
		other, e3 := Times(a, d)
		left, e4 := Times(a, sum)
		right, e5 := Add(product, other)
		if e1 != api.OK || e2 != api.OK || e3 != api.OK || e4 != api.OK || e5 != api.OK {
			continue
		}
		told++
		if left != right {
			t.Fatalf("P9.4: %v times the sum of %v and %v: %v, not %v", a, b, d, left, right)
		}
	}
	if told < 10000 {
		t.Error("too few triples are Right all through:", told)
	}
}

func TestSameCallsTellTheSame(t *testing.T) {
	a, b := api.Point{Re: 5, Im: -7}, api.Point{Re: -11, Im: 13}
	for range 3 {
		p, e := Times(a, b)
		if p != (api.Point{Re: 36, Im: 142}) || e != api.OK || Print(p) != "36+142i" || Norm(p) != 21460 {
			t.Error("R7:", p, e)
		}
		Times(api.Point{Re: math.MaxInt}, b)
		Parse("1+2")
	}
}
