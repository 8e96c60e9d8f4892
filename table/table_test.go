package table

import (
	"slices"
	"strconv"
	"strings"
	"testing"

	"marshalyard/api"
)

// chapter is the table of doc/12-table.md, row by row: what all calls are held against.
const chapter = `
| PING | 0, 0 | 0, 0, 0 | no |
| ECHO | 1, 1 | 0, 0, 0 | no |
| GET | 1, 1 | 1, 1, 1 | no |
| SET | 2, 2 | 1, 1, 1 | yes |
| DEL | 1, 31 | 1, -1, 1 | yes |
| EXISTS | 1, 31 | 1, -1, 1 | no |
| TYPE | 1, 1 | 1, 1, 1 | no |
| APPEND | 2, 2 | 1, 1, 1 | yes |
| STRLEN | 1, 1 | 1, 1, 1 | no |
| INCRBY | 2, 2 | 1, 1, 1 | yes |
| MGET | 1, 31 | 1, -1, 1 | no |
| MSET | 2, 31 | 1, -1, 2 | yes |
| HSET | 3, 31 | 1, 1, 1 | yes |
| HGET | 2, 2 | 1, 1, 1 | no |
| HDEL | 2, 31 | 1, 1, 1 | yes |
| HLEN | 1, 1 | 1, 1, 1 | no |
| HALL | 1, 1 | 1, 1, 1 | no |
| LPUSH | 2, 31 | 1, 1, 1 | yes |
| RPUSH | 2, 31 | 1, 1, 1 | yes |
| LPOP | 1, 1 | 1, 1, 1 | yes |
| RPOP | 1, 1 | 1, 1, 1 | yes |
| LLEN | 1, 1 | 1, 1, 1 | no |
| LINDEX | 2, 2 | 1, 1, 1 | no |
| LRANGE | 3, 3 | 1, 1, 1 | no |
| LTRIM | 3, 3 | 1, 1, 1 | yes |
| SADD | 2, 31 | 1, 1, 1 | yes |
| SREM | 2, 31 | 1, 1, 1 | yes |
| SHAS | 2, 2 | 1, 1, 1 | no |
| SALL | 1, 1 | 1, 1, 1 | no |
| SCARD | 1, 1 | 1, 1, 1 | no |
| SUNION | 1, 31 | 1, -1, 1 | no |
| SINTER | 1, 31 | 1, -1, 1 | no |
| SDIFF | 1, 31 | 1, -1, 1 | no |
| PSET | 2, 2 | 1, 1, 1 | yes |
| PGET | 1, 1 | 1, 1, 1 | no |
| PADD | 2, 2 | 1, 1, 1 | yes |
| PMUL | 2, 2 | 1, 1, 1 | yes |
| PTURN | 2, 2 | 1, 1, 1 | yes |
| PNORM | 1, 1 | 1, 1, 1 | no |
| EXPIRE | 2, 2 | 1, 1, 1 | yes |
| TTL | 1, 1 | 1, 1, 1 | no |
| PERSIST | 1, 1 | 1, 1, 1 | yes |
| DUMP | 1, 1 | 1, 1, 1 | no |
| RESTORE | 3, 3 | 1, 1, 1 | yes |
| KEYSLOT | 1, 1 | 0, 0, 0 | no |
| COUNT | 1, 1 | 0, 0, 0 | no |
| KEYS | 2, 2 | 0, 0, 0 | no |
`

// chapterRows are the commands as the chapter's table says them.
func chapterRows(t *testing.T) []api.Spec {
	t.Helper()
	var l []api.Spec
	for _, line := range strings.Split(strings.TrimSpace(chapter), "\n") {
		cells := strings.Split(strings.Trim(line, "| "), " | ")
		if len(cells) != 4 {
			t.Fatalf("the row %q has %d cells", line, len(cells))
		}
		counts, places := numbers(t, cells[1], 2), numbers(t, cells[2], 3)
		l = append(l, api.Spec{
			Name:  cells[0],
			Least: counts[0], Most: counts[1],
			First: places[0], Last: places[1], Step: places[2],
			Writes: cells[3] == "yes",
		})
	}
	if len(l) != 47 {
		t.Fatalf("the chapter's table is read as %d rows", len(l))
	}
	return l
}

func numbers(t *testing.T, cell string, many int) []int {
	t.Helper()
	var l []int
	for _, text := range strings.Split(cell, ", ") {
		n, err := strconv.Atoi(text)
		if err != nil {
			t.Fatal(err)
		}
		l = append(l, n)
	}
	if len(l) != many {
		t.Fatalf("the cell %q has %d numbers", cell, len(l))
	}
	return l
}

// small is the small letter of a great one of A to Z; any other byte stays.
func small(c byte) byte {
	const great, less = "ABCDEFGHIJKLMNOPQRSTUVWXYZ", "abcdefghijklmnopqrstuvwxyz"
	if at := strings.IndexByte(great, c); at >= 0 {
		return less[at]
	}
	return c
}

// sameName is P12.2's sentence, byte by byte.
func sameName(a, b string) bool {
	if len(a) != len(b) {
		return false
	}
	for i := range len(a) {
		if small(a[i]) != small(b[i]) {
			return false
		}
	}
	return true
}

// plainFind looks through the chapter's rows, one behind the other.
func plainFind(rows []api.Spec, name string) (api.Spec, bool) {
	for _, r := range rows {
		if sameName(r.Name, name) {
			return r, true
		}
	}
	return api.Spec{}, false
}

// plainCheck is P12.3's sentence about Check, in its order.
func plainCheck(rows []api.Spec, args []string) (api.Spec, api.Errno) {
	if len(args) == 0 {
		return api.Spec{}, api.ErrTableName
	}
	r, is := plainFind(rows, args[0])
	if !is {
		return api.Spec{}, api.ErrTableName
	}
	behind := args[1:]
	if len(behind) < r.Least || len(behind) > r.Most {
		return api.Spec{}, api.ErrTableArity
	}
	if r.Last == -1 && len(args[r.First:])%r.Step != 0 {
		return api.Spec{}, api.ErrTableArity
	}
	return r, api.OK
}

// plainKeys asks of each argument whether a key stands there.
func plainKeys(rows []api.Spec, args []string) []string {
	r, e := plainCheck(rows, args)
	if e != api.OK || r.First == 0 {
		return nil
	}
	var keys []string
	for place, arg := range args {
		ahead := place < r.First || (place-r.First)%r.Step != 0
		behind := r.Last != -1 && place > r.Last
		if !ahead && !behind {
			keys = append(keys, arg)
		}
	}
	return keys
}

// checkFind holds one Find against the chapter's rows.
func checkFind(t *testing.T, rows []api.Spec, name string) {
	t.Helper()
	want, wantIs := plainFind(rows, name)
	if got, is := Find(name); got != want || is != wantIs {
		t.Errorf("P12.2: Find(%q) is %+v, %v, want %+v, %v", name, got, is, want, wantIs)
	}
}

// checkArgs holds Check and Keys of some arguments against the chapter's rows.
func checkArgs(t *testing.T, rows []api.Spec, args []string) {
	t.Helper()
	was := slices.Clone(args)
	want, wantE := plainCheck(rows, args)
	got, e := Check(args)
	if got != want || e != wantE {
		t.Errorf("P12.3: Check(%q) is %+v, %d, want %+v, %d", args, got, e, want, wantE)
	}
	if keys, wantKeys := Keys(args), plainKeys(rows, args); !slices.Equal(keys, wantKeys) {
		t.Errorf("P12.3: Keys(%q) is %q, want %q", args, keys, wantKeys)
	}
	if !slices.Equal(args, was) {
		t.Errorf("R5: the arguments %q were changed to %q", was, args)
	}
}

// withArgs is a command with so many arguments behind its name, all unlike.
func withArgs(name string, many int) []string {
	args := []string{name}
	for i := range many {
		args = append(args, "a"+strconv.Itoa(i+1))
	}
	return args
}

func TestErrorsNumbers(t *testing.T) {
	if api.ErrTableName != 120 || api.ErrTableArity != 121 {
		t.Error("the errors are", api.ErrTableName, api.ErrTableArity)
	}
	if _, e := Check(nil); e != 120 {
		t.Error("P12.3: no arguments:", e)
	}
	if _, e := Check([]string{"GET"}); e != 121 {
		t.Error("P12.3: too few arguments:", e)
	}
}

func TestAllIsTheChaptersTable(t *testing.T) {
	rows, all := chapterRows(t), All()
	if len(all) != len(rows) {
		t.Fatalf("P12.1: All has %d commands, want %d", len(all), len(rows))
	}
	for i, want := range rows {
		if all[i] != want {
			t.Errorf("P12.1: at %d stands %+v, want %+v", i, all[i], want)
		}
	}
}

// What the chapter's words say of a row, whatever its numbers are.
func TestRowsHoldTogether(t *testing.T) {
	for _, s := range All() {
		if s.Least < 0 || s.Least > s.Most || s.Most > api.MaxArgs-1 {
			t.Errorf("P12.1: %s has %d to %d arguments", s.Name, s.Least, s.Most)
		}
		if s.First == 0 && (s.Last != 0 || s.Step != 0 || s.Writes) {
			t.Errorf("P12.1: %s has no keys, but %+v", s.Name, s)
		}
		if s.First != 0 && (s.First > s.Least || s.Step < 1 || s.Last != -1 && (s.Last < s.First || s.Last > s.Least)) {
			t.Errorf("P12.1: the keys of %s stand where no arguments need be: %+v", s.Name, s)
		}
	}
}

func TestNoTwoCommandsHaveOneName(t *testing.T) {
	all := All()
	for i, a := range all {
		for _, b := range all[:i] {
			if sameName(a.Name, b.Name) {
				t.Errorf("P12.4: two commands are named %s", a.Name)
			}
		}
	}
}

func TestFindIsWhatAllTells(t *testing.T) {
	for _, s := range All() {
		if got, is := Find(s.Name); !is || got != s {
			t.Errorf("P12.2: Find(%q) is %+v, %v, want %+v", s.Name, got, is, s)
		}
	}
}

func TestFindInGreatSmallAndMixedLetters(t *testing.T) {
	for _, want := range chapterRows(t) {
		for mask := range 1 << len(want.Name) {
			name := []byte(want.Name)
			for i := range name {
				if mask>>i&1 == 1 {
					name[i] = small(name[i])
				}
			}
			if got, is := Find(string(name)); !is || got != want {
				t.Errorf("P12.2: Find(%q) is %+v, %v, want %+v", name, got, is, want)
			}
			if got, e := Check(withArgs(string(name), want.Least)); e != api.OK || got != want {
				t.Errorf("P12.3: Check(%q, ..) is %+v, %d, want %+v", name, got, e, want)
			}
		}
	}
}

func TestFindOfNamesThatAreNone(t *testing.T) {
	names := []string{
		"", " ", "\x00", "\t", "A", "FOO", "foo", "NIL", "COMMAND", "SETSLOT", "MIGRATE", "ASKING",
		"GETSET", "GET SET", "GET,SET", "GET\x00", "\x00GET", "GET\r\n", "0", "-1", "47",
		"\xff", "\xc3GET", "G\u0415T", "\uff27\uff25\uff34", "ge\u0301t", "GE\u0300T", "\ufeffGET",
		"\u017fET", "\u017fet", "P\u0131NG", "p\u0130ng", "PI\u0274G", "\u212aEYS", "\u212aeyslot", "E\u00d7PIRE", "\u00c9CHO", "\u1e9eADD",
		strings.Repeat("GET", 1<<20), "GET" + strings.Repeat("\x00", 1<<20), strings.Repeat(" ", 1<<20) + "GET",
	}
	for _, name := range names {
		if got, is := Find(name); is || got != (api.Spec{}) {
			t.Errorf("P12.2: Find(%.40q) is %+v, %v", name, got, is)
		}
		for _, args := range [][]string{{name}, {name, "a"}, {name, "a", "b"}, withArgs(name, 31), withArgs(name, 40)} {
			if got, e := Check(args); e != api.ErrTableName || got != (api.Spec{}) {
				t.Errorf("P12.3: Check(%.40q and %d more) is %+v, %d", name, len(args)-1, got, e)
			}
			if keys := Keys(args); len(keys) != 0 {
				t.Errorf("P12.3: Keys(%.40q and %d more) are %q", name, len(args)-1, keys)
			}
		}
	}
}

// Letters beyond A to Z that a fold of all runes, or their great or small letters, would take for some of these.
func TestFindTellsLettersBeyondApart(t *testing.T) {
	beyond := []struct{ letter, like string }{
		{"S", "\u017f"}, {"K", "\u212a"}, {"I", "\u0131"}, {"I", "\u0130"},
		{"A", "\u0391"}, {"E", "\u0395"}, {"T", "\u0422"}, {"P", "\u0420"}, {"M", "\u041c"}, {"H", "\u041d"}, {"N", "\uff2e"}, {"L", "\uff4c"},
	}
	for _, r := range chapterRows(t) {
		for _, b := range beyond {
			for _, name := range []string{r.Name, strings.ToLower(r.Name)} {
				for _, letter := range []string{b.letter, strings.ToLower(b.letter)} {
					other := strings.ReplaceAll(name, letter, b.like)
					if got, is := Find(other); other != name && (is || got != (api.Spec{})) {
						t.Errorf("P12.2: Find(%q) is %+v, %v", other, got, is)
					}
				}
			}
		}
	}
}

func TestFindOfNamesNearby(t *testing.T) {
	rows := chapterRows(t)
	for _, r := range rows {
		for _, blank := range []string{" ", "\t", "\r", "\n", "\x00", "\v", "\u00a0", "\u2003"} {
			for _, name := range []string{blank + r.Name, r.Name + blank, blank + r.Name + blank} {
				if got, is := Find(name); is || got != (api.Spec{}) {
					t.Errorf("P12.2: Find(%q) is %+v, %v", name, got, is)
				}
			}
		}
		for at := range len(r.Name) + 1 {
			for c := range 256 {
				more := r.Name[:at] + string([]byte{byte(c)}) + r.Name[at:]
				checkFind(t, rows, more)
				checkFind(t, rows, strings.ToLower(r.Name[:at])+string([]byte{byte(c)})+r.Name[at:])
			}
			checkFind(t, rows, r.Name[:at])
			checkFind(t, rows, r.Name[at:])
		}
	}
}

func TestFindWithOneByteAnotherOrLess(t *testing.T) {
	rows := chapterRows(t)
	for _, r := range rows {
		for at := range len(r.Name) {
			for c := range 256 {
				checkFind(t, rows, r.Name[:at]+string([]byte{byte(c)})+r.Name[at+1:])
			}
			checkFind(t, rows, r.Name[:at]+r.Name[at+1:])
		}
	}
}

func TestFindOfAllShortNames(t *testing.T) {
	rows := chapterRows(t)
	for a := range 256 {
		checkFind(t, rows, string([]byte{byte(a)}))
		for b := range 256 {
			checkFind(t, rows, string([]byte{byte(a), byte(b)}))
		}
	}
}

func TestCheckExamples(t *testing.T) {
	get := api.Spec{Name: "GET", Least: 1, Most: 1, First: 1, Last: 1, Step: 1}
	cases := []struct {
		args []string
		want api.Spec
		e    api.Errno
	}{
		{[]string{"get", "a"}, get, api.OK},
		{[]string{"GET", ""}, get, api.OK},
		{[]string{"GET"}, api.Spec{}, api.ErrTableArity},
		{[]string{"GET", "a", "b"}, api.Spec{}, api.ErrTableArity},
		{[]string{"FOO"}, api.Spec{}, api.ErrTableName},
		{[]string{""}, api.Spec{}, api.ErrTableName},
		{[]string{"", "GET", "a"}, api.Spec{}, api.ErrTableName},
		{[]string{}, api.Spec{}, api.ErrTableName},
		{nil, api.Spec{}, api.ErrTableName},
		{[]string{"pInG"}, api.Spec{Name: "PING"}, api.OK},
		{[]string{"PING", "x"}, api.Spec{}, api.ErrTableArity},
		{[]string{"mset", "a", "1", "b", "2"}, api.Spec{Name: "MSET", Least: 2, Most: 31, First: 1, Last: -1, Step: 2, Writes: true}, api.OK},
		{[]string{"MSET", "a", "1", "b"}, api.Spec{}, api.ErrTableArity},
		// The pairs of HSET are not the table's: its keys end at the place 1.
		{[]string{"hset", "k", "f", "v", "g"}, api.Spec{Name: "HSET", Least: 3, Most: 31, First: 1, Last: 1, Step: 1, Writes: true}, api.OK},
	}
	for _, c := range cases {
		if got, e := Check(c.args); got != c.want || e != c.e {
			t.Errorf("P12.3: Check(%q) is %+v, %d, want %+v, %d", c.args, got, e, c.want, c.e)
		}
	}
}

func TestCheckAtTheEdges(t *testing.T) {
	for _, r := range chapterRows(t) {
		for _, many := range []int{0, r.Least - 1, r.Least, r.Most, r.Most + 1, 32, 33, 1000} {
			if many < 0 {
				continue
			}
			got, e := Check(withArgs(strings.ToLower(r.Name), many))
			fits := many >= r.Least && many <= r.Most && (r.Name != "MSET" || many%2 == 0)
			if fits && (e != api.OK || got != r) {
				t.Errorf("P12.3: %s with %d arguments is %+v, %d, want %+v", r.Name, many, got, e, r)
			}
			if !fits && (e != api.ErrTableArity || got != (api.Spec{})) {
				t.Errorf("P12.3: %s with %d arguments is %+v, %d, want ErrTableArity", r.Name, many, got, e)
			}
		}
	}
}

func TestCheckOfPairs(t *testing.T) {
	for many := range 40 {
		want := api.ErrTableArity
		if many >= 2 && many <= 30 && many%2 == 0 {
			want = api.OK
		}
		args := withArgs("MSET", many)
		if _, e := Check(args); e != want {
			t.Errorf("P12.3: MSET with %d arguments is %d, want %d", many, e, want)
		}
		keys := Keys(args)
		if want != api.OK && len(keys) != 0 || want == api.OK && len(keys) != many/2 {
			t.Errorf("P12.3: MSET with %d arguments has the keys %q", many, keys)
		}
	}
}

func TestKeysExamples(t *testing.T) {
	cases := []struct{ args, want string }{
		{"mset a 1 b 2", "a b"},
		{"MSET a 1", "a"},
		{"MSET a 1 b", ""},
		{"MSET a", ""},
		{"MSET", ""},
		{"get a", "a"},
		{"GET", ""},
		{"GET a b", ""},
		{"SET a b", "a"},
		{"del a b c", "a b c"},
		{"DEL a a a", "a a a"},
		{"EXISTS x", "x"},
		{"MGET get set del", "get set del"},
		{"SUNION c b a", "c b a"},
		{"SINTER a b", "a b"},
		{"SDIFF b a", "b a"},
		{"HSET k f v g w", "k"},
		{"HDEL k f g", "k"},
		{"LPUSH l a b c", "l"},
		{"SADD s a b", "s"},
		{"LRANGE l 0 -1", "l"},
		{"RESTORE k 0 t", "k"},
		{"EXPIRE k 5", "k"},
		{"PING", ""},
		{"ECHO a", ""},
		{"KEYSLOT a", ""},
		{"COUNT 5", ""},
		{"KEYS 5 9", ""},
		{"FOO a b", ""},
		{"", ""},
	}
	for _, c := range cases {
		if got := Keys(strings.Fields(c.args)); strings.Join(got, " ") != c.want {
			t.Errorf("P12.3: Keys(%s) is %q, want %s", c.args, got, c.want)
		}
	}
	if got := Keys([]string{"DEL", "", "a", ""}); !slices.Equal(got, []string{"", "a", ""}) {
		t.Errorf("P12.3: empty texts are keys too: %q", got)
	}
	if got := Keys([]string{"MSET", "", "", "\xff", "\x00"}); !slices.Equal(got, []string{"", "\xff"}) {
		t.Errorf("P12.3: empty texts are keys too: %q", got)
	}
}

func TestEveryCommandWithEveryNumberOfArguments(t *testing.T) {
	rows := chapterRows(t)
	checkArgs(t, rows, nil)
	checkArgs(t, rows, []string{})
	for _, r := range rows {
		for many := range 70 {
			checkArgs(t, rows, withArgs(r.Name, many))
			checkArgs(t, rows, withArgs(strings.ToLower(r.Name), many))
			checkArgs(t, rows, withArgs(r.Name+"X", many))
			checkArgs(t, rows, withArgs(" "+r.Name, many))
		}
		checkArgs(t, rows, make([]string, 1<<10))
		checkArgs(t, rows, append([]string{r.Name}, make([]string, 1<<16)...))
		checkArgs(t, rows, append([]string{r.Name}, make([]string, r.Least)...))
	}
}

func TestKeysAreNoneWithAnError(t *testing.T) {
	for _, r := range chapterRows(t) {
		for many := range 70 {
			args := withArgs(r.Name, many)
			got, e := Check(args)
			keys := Keys(args)
			if e != api.OK && (len(keys) != 0 || got != (api.Spec{})) {
				t.Errorf("P12.3: %s with %d arguments has the error %d, but tells %+v and %q", r.Name, many, e, got, keys)
			}
			if e == api.OK && (len(keys) != 0) != (r.First != 0) {
				t.Errorf("P12.3: %s with %d arguments has the keys %q", r.Name, many, keys)
			}
		}
	}
}

func TestWhatAllToldIsTheCallersOwn(t *testing.T) {
	rows := chapterRows(t)
	first, second := All(), All()
	for i := range first {
		first[i] = api.Spec{Name: "FOO", Least: 9, Most: 9, First: 9, Last: 9, Step: 9, Writes: true}
	}
	// Behind its length too: a list that has more room could be a piece of another one.
	room := first[:cap(first)]
	for i := range room {
		room[i].Name = "FOO"
	}
	_ = append(first[:0], api.Spec{Name: "BAR"})
	if !slices.Equal(second, rows) || !slices.Equal(All(), rows) {
		t.Errorf("P12.4: what is written into All's answer is seen in another one")
	}
	for _, r := range rows {
		checkFind(t, rows, r.Name)
		checkArgs(t, rows, withArgs(r.Name, r.Least))
	}
	checkFind(t, rows, "FOO")
	checkFind(t, rows, "BAR")
}

func TestWhatKeysToldIsTheCallersOwn(t *testing.T) {
	rows := chapterRows(t)
	for _, r := range rows {
		args := withArgs(r.Name, r.Least)
		was := slices.Clone(args)
		want := plainKeys(rows, was)
		first, second := Keys(args), Keys(args)
		room := first[:cap(first)]
		for i := range room {
			room[i] = "other"
		}
		_ = append(first, "more")
		if !slices.Equal(args, was) {
			t.Errorf("P12.4: %s: what is written into its keys changes its arguments: %q", r.Name, args)
		}
		if !slices.Equal(second, want) || !slices.Equal(Keys(args), want) {
			t.Errorf("P12.4: %s: what is written into its keys is seen in another answer", r.Name)
		}
		for i := range args {
			args[i] = "other"
		}
		if !slices.Equal(second, want) {
			t.Errorf("R6: %s: what is written into its arguments changes the keys told: %q", r.Name, second)
		}
		checkArgs(t, rows, was)
	}
}

// Room behind the arguments belongs to the caller, and is neither read nor written.
func TestArgumentsWithRoomBehindThem(t *testing.T) {
	rows := chapterRows(t)
	for _, r := range rows {
		for many := range 34 {
			all := withArgs(r.Name, many+3)
			was := slices.Clone(all)
			checkArgs(t, rows, all[:many+1])
			if !slices.Equal(all, was) {
				t.Errorf("R5: %s: what stands behind its arguments was changed: %q", r.Name, all)
			}
		}
	}
}

func TestTheSameCallsTellTheSame(t *testing.T) {
	rows := chapterRows(t)
	for range 100 {
		if !slices.Equal(All(), rows) {
			t.Fatal("R7: All tells something else")
		}
		checkFind(t, rows, "LpUsH")
		checkFind(t, rows, "FOO")
		checkArgs(t, rows, []string{"mset", "a", "1", "b", "2"})
		checkArgs(t, rows, []string{"mset", "a", "1", "b"})
	}
}

// chance is a row of numbers that look like chance, the same at every run.
type chance uint64

func (c *chance) below(n int) int {
	*c = *c*6364136223846793005 + 1442695040888963407
	return int(uint64(*c)>>33) % n
}

// name is one of the rows', some of its letters small, and now and then a byte another one.
func (c *chance) name(rows []api.Spec) string {
	b := []byte(rows[c.below(len(rows))].Name)
	for i := range b {
		if c.below(2) == 0 {
			b[i] = small(b[i])
		}
	}
	if c.below(4) == 0 {
		b[c.below(len(b))] = byte(c.below(256))
	}
	return string(b)
}

func TestManyRows(t *testing.T) {
	rows := chapterRows(t)
	c := chance(12)
	for range 20000 {
		args := []string{c.name(rows)}
		for range c.below(36) {
			args = append(args, c.name(rows))
		}
		checkFind(t, rows, args[0])
		checkArgs(t, rows, args)
	}
}
