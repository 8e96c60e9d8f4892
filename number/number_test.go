package number

import (
	"math"
	"math/big"
	"regexp"
	"strconv"
	"strings"
	"testing"

	"marshalyard/api"
)

var form = regexp.MustCompile(`\A(0|-?[1-9][0-9]*)\z`)

// told is what P5.1 says of s, by a pattern of bytes and numbers without bounds.
func told(s string) (int, api.Errno) {
	if !form.MatchString(s) {
		return 0, api.ErrNumberForm
	}
	n, _ := new(big.Int).SetString(s, 10)
	if !n.IsInt64() {
		return 0, api.ErrNumberOver
	}
	return int(n.Int64()), api.OK
}

func checkParse(t *testing.T, s string) {
	t.Helper()
	n, e := Parse(s)
	if wantN, want := told(s); n != wantN || e != want {
		t.Errorf("P5.1: Parse(%q): %d, %d, not %d, %d", s, n, e, wantN, want)
	}
	if e == api.OK && Print(n) != s {
		t.Errorf("P5.4: Print of what Parse(%q) told: %q", s, Print(n))
	}
}

func chance(seed uint32) func() int {
	return func() int {
		seed = seed*1664525 + 1013904223
		return int(seed >> 8)
	}
}

// wideByChance is a number of any width, of either sign.
func wideByChance(next func() int) int {
	n := next()<<48 ^ next()<<24 ^ next()
	return n >> (next() % 64)
}

// edges are the numbers about which a bound may be wrong by one.
func edges() []int {
	l := []int{math.MinInt, math.MinInt + 1, math.MinInt + 2, math.MaxInt - 2, math.MaxInt - 1, math.MaxInt}
	for _, n := range []int{0, 9, 10, 99, 100, 1000, 1 << 31, 1 << 32, 1 << 62, math.MaxInt / 10, math.MaxInt / 100, 1e18} {
		l = append(l, n-1, n, n+1, 1-n, -n, -n-1)
	}
	return l
}

func TestParseTellsNumbers(t *testing.T) {
	for _, x := range []struct {
		s string
		n int
	}{
		{"-5", -5}, {"0", 0}, {"1", 1}, {"9", 9}, {"-1", -1}, {"-9", -9}, {"10", 10}, {"-10", -10},
		{"100", 100}, {"1000000000000000000", 1e18}, {"-1000000000000000000", -1e18},
		{"1234567890", 1234567890}, {"-9876543210", -9876543210},
		{"2147483647", 1<<31 - 1}, {"2147483648", 1 << 31}, {"4294967296", 1 << 32},
		{"9223372036854775806", math.MaxInt - 1}, {"9223372036854775807", math.MaxInt},
		{"-9223372036854775807", -math.MaxInt}, {"-9223372036854775808", math.MinInt},
	} {
		if n, e := Parse(x.s); n != x.n || e != api.OK {
			t.Errorf("P5.1: Parse(%q): %d, %d", x.s, n, e)
		}
		if s := Print(x.n); s != x.s {
			t.Errorf("P5.1: Print(%d): %q", x.n, s)
		}
		checkParse(t, x.s)
	}
}

func TestParseOver(t *testing.T) {
	for _, s := range []string{
		"9223372036854775808", "9223372036854775809", "9223372036854775810", "9223372036854775817", "9999999999999999999",
		"10000000000000000000", "18446744073709551615", "18446744073709551616", "18446744073709551621", "92233720368547758070",
		"99999999999999999999", "100000000000000000000", "340282366920938463463374607431768211456",
		"-9223372036854775809", "-9223372036854775810", "-9223372036854775818", "-9999999999999999999",
		"-18446744073709551615", "-18446744073709551616", "-92233720368547758080", "-99999999999999999999",
		strings.Repeat("9", 5000), "-" + strings.Repeat("9", 5000), "1" + strings.Repeat("0", 5000), "-1" + strings.Repeat("0", 5000),
	} {
		if n, e := Parse(s); n != 0 || e != api.ErrNumberOver {
			t.Errorf("P5.1: Parse(%.50q), too great or too small: %d, %d", s, n, e)
		}
		checkParse(t, s)
	}
}

func wrongForms() []string {
	l := []string{
		"", "-", "--", "+", "+1", "+0", "-+1", "+-1", "--1", "---1", "1-", "1-1", "-1-", "5-3",
		"05", "00", "000", "01", "-05", "-00", "-01", "-0", "0-", "0-1", "00000000000000000001", "-09223372036854775808",
		" ", " 1", "1 ", "1 2", "- 1", "-1 ", "\t1", "1\t", "\n1", "1\n", "1\r\n", "1\x00", "\x001", "\x00",
		"1.0", "1.", ".1", "1e3", "1E3", "1_000", "1,000", "0x10", "0X1", "x", "a", "f", "1a", "a1", "0b1", "0o7", "inf", "nan",
		"/", ":", "1/", "1:", "-/", "-:", "/1", ":1", ".", "1\xb1", "\xb1",
		// Digits, signs and spaces of other scripts, and noughts that are not seen.
		"\u0661", "1\u0661", "\u06611", "-\u0661", "\uff11", "\u0967", "\u00b2", "\u00bd", "\U0001d7d9", "\u2212\u0031", "\u20101", "\u00ad1", "1\u00a0", "\ufeff1", "1\u200b",
		// Runes whose last bits are those of a digit.
		"\u0130", "\u0230", "\U00010031", "\u0131\u0132", "\u012d1",
		// Bytes that are no runes.
		"\xff", "\x80", "1\x80", "\x801", "-\xff", "-1\xff", "\xed\xa0\x80", "\xc0\xb1", "1\xc0\xb1", "\xe0\x80\xb1", "\xf0\x80\x80\xb1", "\xf8\x31", "\xd9", "\xd9\x31", "1\xd9", "\xf4\x90\x80\x80", "\ufffd", "1\ufffd",
	}
	// A wrong form is told ahead of a number that is too great.
	for _, s := range []string{"9223372036854775808", "-9223372036854775809", "99999999999999999999", strings.Repeat("1", 3000)} {
		l = append(l, s+" ", s+"-", s+"x", s+"\xff", s+"\u0661", " "+s, "+"+s, "0"+strings.TrimPrefix(s, "-"), "-0"+strings.TrimPrefix(s, "-"), "-"+"-"+s, s+".0")
	}
	return l
}

func TestParseWrongForm(t *testing.T) {
	for _, s := range wrongForms() {
		if n, e := Parse(s); n != 0 || e != api.ErrNumberForm {
			t.Errorf("P5.1: Parse(%.50q), which is no number: %d, %d", s, n, e)
		}
	}
}

// TestParseEveryByte lays each byte ahead of, within and behind numbers.
func TestParseEveryByte(t *testing.T) {
	for _, s := range []string{"", "-", "0", "7", "-7", "10", "922337203685477580", "-922337203685477580", "9223372036854775807", "-9223372036854775808"} {
		for at := range len(s) + 1 {
			for c := range 256 {
				checkParse(t, s[:at]+string([]byte{byte(c)})+s[at:])
				if at < len(s) {
					checkParse(t, s[:at]+string([]byte{byte(c)})+s[at+1:])
				}
			}
		}
	}
}

func TestParseAllShortTexts(t *testing.T) {
	alphabet := []string{"-", "+", "0", "1", "9", " ", ".", "\xff", "\u0660"}
	var grow func(s string, room int)
	grow = func(s string, room int) {
		checkParse(t, s)
		if room > 0 {
			for _, a := range alphabet {
				grow(s+a, room-1)
			}
		}
	}
	grow("", 5)
}

// TestParseByTheBounds goes through all numbers near both bounds, and near their tenths with each digit behind.
func TestParseByTheBounds(t *testing.T) {
	for _, middle := range []string{"9223372036854775807", "-9223372036854775808", "922337203685477580", "-922337203685477580", "92233720368547758070", "-92233720368547758080", "18446744073709551616", "-18446744073709551616", "1000000000000000000", "0"} {
		n, _ := new(big.Int).SetString(middle, 10)
		for d := -200; d <= 200; d++ {
			s := new(big.Int).Add(n, big.NewInt(int64(d))).String()
			checkParse(t, s)
			for c := range 10 {
				checkParse(t, s+strconv.Itoa(c))
			}
		}
	}
}

func TestParseByChance(t *testing.T) {
	next := chance(5)
	for range 200000 {
		var s []byte
		if next()%2 == 0 {
			s = append(s, '-')
		}
		for range next() % 22 {
			s = append(s, byte('0'+next()%10))
		}
		if next()%4 == 0 {
			s = append(s, byte(next()))
		}
		checkParse(t, string(s))
	}
}

func TestPrintAndBack(t *testing.T) {
	check := func(n int) {
		s := Print(n)
		if s != big.NewInt(int64(n)).String() {
			t.Fatalf("P5.1: Print(%d): %q", n, s)
		}
		if back, e := Parse(s); back != n || e != api.OK {
			t.Fatalf("P5.4: Parse of Print(%d): %d, %d", n, back, e)
		}
	}
	for n := -20000; n <= 20000; n++ {
		check(n)
	}
	for _, n := range edges() {
		check(n)
	}
	next := chance(6)
	for range 100000 {
		check(wideByChance(next))
	}
}

func checkAdd(t *testing.T, a, b int) {
	t.Helper()
	want, wantE := 0, api.OK
	if sum := new(big.Int).Add(big.NewInt(int64(a)), big.NewInt(int64(b))); sum.IsInt64() {
		want = int(sum.Int64())
	} else {
		wantE = api.ErrNumberOver
	}
	if sum, e := Add(a, b); sum != want || e != wantE {
		t.Errorf("P5.2: Add(%d, %d): %d, %d, not %d, %d", a, b, sum, e, want, wantE)
	}
}

func TestAdd(t *testing.T) {
	for _, x := range []struct {
		a, b, sum int
		e         api.Errno
	}{
		{0, 0, 0, api.OK}, {1, 2, 3, api.OK}, {-1, 1, 0, api.OK}, {-3, -4, -7, api.OK},
		{math.MaxInt, 0, math.MaxInt, api.OK}, {math.MaxInt - 1, 1, math.MaxInt, api.OK}, {math.MaxInt, -1, math.MaxInt - 1, api.OK},
		{math.MinInt, 0, math.MinInt, api.OK}, {math.MinInt + 1, -1, math.MinInt, api.OK}, {math.MinInt, 1, math.MinInt + 1, api.OK},
		{math.MaxInt, math.MinInt, -1, api.OK}, {1 << 62, 1<<62 - 1, math.MaxInt, api.OK}, {-1 << 62, -1 << 62, math.MinInt, api.OK},
		{math.MaxInt, 1, 0, api.ErrNumberOver}, {math.MaxInt, math.MaxInt, 0, api.ErrNumberOver}, {1 << 62, 1 << 62, 0, api.ErrNumberOver},
		{math.MinInt, -1, 0, api.ErrNumberOver}, {math.MinInt, math.MinInt, 0, api.ErrNumberOver}, {-1 << 62, -1<<62 - 1, 0, api.ErrNumberOver},
	} {
		for _, y := range [][2]int{{x.a, x.b}, {x.b, x.a}} {
			if sum, e := Add(y[0], y[1]); sum != x.sum || e != x.e {
				t.Errorf("P5.2: Add(%d, %d): %d, %d", y[0], y[1], sum, e)
			}
		}
	}
	for _, a := range edges() {
		for _, b := range edges() {
			checkAdd(t, a, b)
		}
	}
	next := chance(7)
	for range 100000 {
		checkAdd(t, wideByChance(next), wideByChance(next))
	}
}

// stretch is what P5.3 says, in its own order, by numbers without bounds.
func stretch(from, to, many int) (int, int) {
	if many < 1 {
		return 0, 0
	}
	f, l, m := big.NewInt(int64(from)), big.NewInt(int64(to)), big.NewInt(int64(many))
	last := new(big.Int).Sub(m, big.NewInt(1))
	for _, x := range []*big.Int{f, l} {
		if x.Sign() < 0 {
			x.Add(x, m)
		}
	}
	if f.Sign() < 0 {
		f.SetInt64(0)
	}
	if l.Cmp(last) > 0 {
		l.Set(last)
	}
	if f.Cmp(l) > 0 || f.Cmp(last) > 0 {
		return 0, 0
	}
	return int(f.Int64()), int(l.Int64()) + 1
}

func checkClamp(t *testing.T, from, to, many int) {
	t.Helper()
	first, behind := Clamp(from, to, many)
	if a, b := stretch(from, to, many); first != a || behind != b {
		t.Errorf("P5.3: Clamp(%d, %d, %d): %d, %d, not %d, %d", from, to, many, first, behind, a, b)
	}
	if first < 0 || first > behind || behind > max(many, 0) {
		t.Errorf("P5.4: Clamp(%d, %d, %d): %d, %d is no stretch of the row", from, to, many, first, behind)
	}
}

func TestClamp(t *testing.T) {
	for _, x := range [][5]int{
		{0, -1, 3, 0, 3}, {-2, 9, 3, 1, 3}, {2, 1, 3, 0, 0},
		{0, 0, 3, 0, 1}, {2, 2, 3, 2, 3}, {1, 2, 3, 1, 3}, {0, 2, 3, 0, 3}, {0, 3, 3, 0, 3},
		{-1, -1, 3, 2, 3}, {-3, -3, 3, 0, 1}, {-4, -3, 3, 0, 1}, {-4, -4, 3, 0, 0}, {-3, -1, 3, 0, 3}, {-1, -2, 3, 0, 0}, {-1, 0, 3, 0, 0}, {0, -4, 3, 0, 0},
		{3, 3, 3, 0, 0}, {3, -1, 3, 0, 0}, {3, 9, 3, 0, 0}, {9, 9, 3, 0, 0}, {-9, 9, 3, 0, 3}, {-9, 0, 3, 0, 1},
		{0, 0, 1, 0, 1}, {-1, -1, 1, 0, 1}, {0, -1, 1, 0, 1}, {1, 1, 1, 0, 0}, {0, -2, 1, 0, 0},
		{0, 0, 0, 0, 0}, {0, -1, 0, 0, 0}, {-1, 0, 0, 0, 0}, {-5, 5, 0, 0, 0}, {0, 0, -1, 0, 0}, {-5, 5, -3, 0, 0}, {-9, -8, math.MinInt, 0, 0},
		{math.MinInt, math.MaxInt, 2, 0, 2}, {math.MaxInt, math.MinInt, 2, 0, 0}, {math.MinInt, math.MinInt, 2, 0, 0}, {math.MaxInt, math.MaxInt, 2, 0, 0},
		{0, -1, math.MaxInt, 0, math.MaxInt}, {-1, -1, math.MaxInt, math.MaxInt - 1, math.MaxInt}, {math.MinInt, math.MaxInt, math.MaxInt, 0, math.MaxInt},
		{-math.MaxInt, -math.MaxInt, math.MaxInt, 0, 1}, {math.MinInt, math.MinInt, math.MaxInt, 0, 0}, {math.MinInt, math.MaxInt, math.MinInt, 0, 0},
	} {
		if a, b := Clamp(x[0], x[1], x[2]); a != x[3] || b != x[4] {
			t.Errorf("P5.3: Clamp(%d, %d, %d): %d, %d, not %d, %d", x[0], x[1], x[2], a, b, x[3], x[4])
		}
	}
}

func TestClampAllRound(t *testing.T) {
	for many := -3; many <= 8; many++ {
		for from := -12; from <= 12; from++ {
			for to := -12; to <= 12; to++ {
				checkClamp(t, from, to, many)
			}
		}
	}
	for _, many := range edges() {
		for _, from := range edges() {
			for _, to := range edges() {
				checkClamp(t, from, to, many)
			}
		}
	}
	next := chance(8)
	for range 100000 {
		checkClamp(t, wideByChance(next), wideByChance(next), wideByChance(next))
	}
}
