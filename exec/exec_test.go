package exec

import (
	"math"
	"slices"
	"strconv"
	"strings"
	"testing"

	"marshalyard/api"
	"marshalyard/keyspace"
	"marshalyard/reply"
	"marshalyard/table"
	"marshalyard/value"
)

const (
	mostKey = 1024
	room    = 1 << 20
)

// brief writes an answer in one line: +simple, -Fault, :number, $text, nil, [many].
func brief(r api.Reply) string {
	switch r.Kind {
	case api.Simple:
		return "+" + r.Text
	case api.Fault:
		return "-" + r.Text
	case api.Whole:
		return ":" + strconv.Itoa(r.Int)
	case api.Bulk:
		return "$" + r.Text
	case api.Nil:
		return "nil"
	case api.Many:
		var all []string
		for _, x := range r.List {
			all = append(all, brief(x))
		}
		return "[" + strings.Join(all, " ") + "]"
	}
	return "Kind " + strconv.Itoa(r.Kind)
}

// words are those of a command, two single quotes standing for the empty text.
func words(command string) []string {
	all := strings.Fields(command)
	for i, w := range all {
		if w == "''" {
			all[i] = ""
		}
	}
	return all
}

// state tells what a key has, and behind an @ when it ends, if it does.
func state(s *keyspace.Space, key string) string {
	e, there := s.Get(key)
	if !there {
		return "none"
	}
	text := value.Type(e.Value) + " "
	switch e.Value.Kind {
	case api.KindText:
		text += e.Value.Text
	case api.KindHash:
		var all []string
		for _, p := range e.Value.Pairs {
			all = append(all, p.Name+"="+p.Value)
		}
		text += strings.Join(all, ",")
	case api.KindPoint:
		text += pointText(e.Value.Point.Re, e.Value.Point.Im)
	default:
		text += strings.Join(e.Value.Items, ",")
	}
	if e.Ends > 0 {
		text += " @" + strconv.Itoa(e.Ends)
	}
	return text
}

func sameSpace(a, b *keyspace.Space) bool {
	return a.Now() == b.Now() && a.Memory() == b.Memory() && slices.EqualFunc(a.All(), b.All(), sameEntry)
}

func sameEntry(a, b api.Entry) bool {
	return a.Key == b.Key && a.Ends == b.Ends && value.Same(a.Value, b.Value)
}

// do does a command, and holds it against P13.2: what does not write, and what is answered a Fault, changes nothing but what Tick does.
func do(t *testing.T, s *keyspace.Space, now int, args ...string) api.Reply {
	t.Helper()
	ahead := s.Clone()
	ahead.Tick(now)
	kept := slices.Clone(args)
	r := Do(s, args, now)
	spec, e := table.Check(args)
	if (r.Kind == api.Fault || e != api.OK || !spec.Writes) && !sameSpace(s, ahead) {
		t.Errorf("P13.2: %.80q, answered %.80q, has changed the space", args, brief(r))
	}
	if !slices.Equal(args, kept) {
		t.Errorf("R5: %.80q have become %.80q", kept, args)
	}
	if !rightReply(r) {
		t.Errorf("P13.1: %.80q: %+v", args, r)
	}
	return r
}

// rightReply tells whether the fields that the kind does not use are zero.
func rightReply(r api.Reply) bool {
	for _, x := range r.List {
		if !rightReply(x) {
			return false
		}
	}
	_, ok := reply.Encode(api.Reply{Kind: r.Kind, Int: r.Int, Text: r.Text, List: r.List[:min(len(r.List), 1024)]})
	return ok
}

// run does commands, each with its answer behind it.
func run(t *testing.T, s *keyspace.Space, now int, script ...string) {
	t.Helper()
	for i := 0; i < len(script); i += 2 {
		if r := brief(do(t, s, now, words(script[i])...)); r != script[i+1] {
			t.Errorf("P13.1: %s: %s, not %s", script[i], r, script[i+1])
		}
	}
}

// five is a space with a key of each kind, named by the chapter's signs, all of them ending at 9, while the clock is 2; there is none named N.
func five() *keyspace.Space {
	s := keyspace.New(room)
	for _, e := range []api.Entry{
		{Key: "T", Value: api.Value{Kind: api.KindText, Text: "5"}, Ends: 9},
		{Key: "H", Value: api.Value{Kind: api.KindHash, Pairs: []api.Pair{{Name: "a", Value: "1"}, {Name: "b", Value: "2"}}}, Ends: 9},
		{Key: "L", Value: api.Value{Kind: api.KindList, Items: []string{"b", "a", "b"}}, Ends: 9},
		{Key: "S", Value: api.Value{Kind: api.KindSet, Items: []string{"a", "b", "c"}}, Ends: 9},
		{Key: "P", Value: api.Value{Kind: api.KindPoint, Point: api.Point{Re: 3, Im: -4}}, Ends: 9},
	} {
		s.Put(e)
	}
	s.Tick(2)
	return s
}

// Each command that is for a kind, k being its key: on one of its kind, on one that is not there, and on one of each other kind. An empty after: as it was.
func TestCommandsOfAKind(t *testing.T) {
	seen := map[string]bool{}
	for _, x := range []struct{ sign, command, own, after, none, noneAfter string }{
		{"T", "GET k", "$5", "", "nil", ""},
		{"T", "STRLEN k", ":1", "", ":0", ""},
		{"T", "APPEND k xy", ":3", "string 5xy @9", ":2", "string xy"},
		{"T", "APPEND k ''", ":1", "", ":0", "string "},
		{"T", "INCRBY k 7", ":12", "string 12 @9", ":7", "string 7"},
		{"T", "INCRBY k -7", ":-2", "string -2 @9", ":-7", "string -7"},
		{"T", "INCRBY k 0", ":5", "", ":0", "string 0"},
		{"H", "HSET k a 3", ":0", "hash a=3,b=2 @9", ":1", "hash a=3"},
		{"H", "HSET k c 3 aa 4 c 5", ":2", "hash a=1,aa=4,b=2,c=5 @9", ":2", "hash aa=4,c=5"},
		{"H", "HSET k '' ''", ":1", "hash =,a=1,b=2 @9", ":1", "hash ="},
		{"H", "HGET k b", "$2", "", "nil", ""},
		{"H", "HGET k c", "nil", "", "nil", ""},
		{"H", "HDEL k a c a", ":1", "hash b=2 @9", ":0", ""},
		{"H", "HDEL k c", ":0", "", ":0", ""},
		{"H", "HDEL k b a", ":2", "none", ":0", ""},
		{"H", "HLEN k", ":2", "", ":0", ""},
		{"H", "HALL k", "[$a $1 $b $2]", "", "[]", ""},
		{"L", "LPUSH k x y", ":5", "list y,x,b,a,b @9", ":2", "list y,x"},
		{"L", "RPUSH k x y", ":5", "list b,a,b,x,y @9", ":2", "list x,y"},
		{"L", "LPOP k", "$b", "list a,b @9", "nil", ""},
		{"L", "RPOP k", "$b", "list b,a @9", "nil", ""},
		{"L", "LLEN k", ":3", "", ":0", ""},
		{"L", "LINDEX k 1", "$a", "", "nil", ""},
		{"L", "LINDEX k -2", "$a", "", "nil", ""},
		{"L", "LINDEX k 3", "nil", "", "nil", ""},
		{"L", "LINDEX k -4", "nil", "", "nil", ""},
		{"L", "LRANGE k 0 -1", "[$b $a $b]", "", "[]", ""},
		{"L", "LRANGE k -2 9", "[$a $b]", "", "[]", ""},
		{"L", "LRANGE k 2 1", "[]", "", "[]", ""},
		{"L", "LTRIM k 1 -1", "+OK", "list a,b @9", "+OK", ""},
		{"L", "LTRIM k -9 9", "+OK", "", "+OK", ""},
		{"L", "LTRIM k 3 9", "+OK", "none", "+OK", ""},
		{"S", "SADD k bb a bb", ":1", "set a,b,bb,c @9", ":2", "set a,bb"},
		{"S", "SADD k c b", ":0", "", ":2", "set b,c"},
		{"S", "SREM k b x b", ":1", "set a,c @9", ":0", ""},
		{"S", "SREM k x", ":0", "", ":0", ""},
		{"S", "SREM k c b a", ":3", "none", ":0", ""},
		{"S", "SHAS k b", ":1", "", ":0", ""},
		{"S", "SHAS k x", ":0", "", ":0", ""},
		{"S", "SCARD k", ":3", "", ":0", ""},
		{"S", "SALL k", "[$a $b $c]", "", "[]", ""},
		{"S", "SUNION k", "[$a $b $c]", "", "[]", ""},
		{"S", "SINTER k", "[$a $b $c]", "", "[]", ""},
		{"S", "SDIFF k", "[$a $b $c]", "", "[]", ""},
		{"P", "PGET k", "$3-4i", "", "nil", ""},
		{"P", "PADD k -1+5i", "$2+1i", "point 2+1i @9", "$-1+5i", "point -1+5i"},
		{"P", "PADD k 0+0i", "$3-4i", "", "$0+0i", "point 0+0i"},
		{"P", "PMUL k 1+2i", "$11+2i", "point 11+2i @9", "$0+0i", "point 0+0i"},
		{"P", "PTURN k 1", "$4+3i", "point 4+3i @9", "$0+0i", "point 0+0i"},
		{"P", "PTURN k -1", "$-4-3i", "point -4-3i @9", "$0+0i", "point 0+0i"},
		{"P", "PTURN k -9223372036854775808", "$3-4i", "", "$0+0i", "point 0+0i"},
		{"P", "PNORM k", ":25", "", ":0", ""},
	} {
		args := words(x.command)
		seen[args[0]] = true
		for _, key := range []string{"T", "H", "L", "S", "P", "N"} {
			answer, after := "-WRONGTYPE", ""
			switch key {
			case x.sign:
				answer, after = x.own, x.after
			case "N":
				answer, after = x.none, x.noneAfter
			}
			checkOn(t, args, key, answer, after)
		}
	}
	checkSeen(t, seen, "GET STRLEN APPEND INCRBY HSET HGET HDEL HLEN HALL LPUSH RPUSH LPOP RPOP LLEN LINDEX LRANGE LTRIM SADD SREM SHAS SCARD SALL SUNION SINTER SDIFF PGET PADD PMUL PTURN PNORM")
}

// checkOn does a command on one of the keys of five: only that may change.
func checkOn(t *testing.T, args []string, key, answer, after string) {
	t.Helper()
	s, former := five(), five()
	args = slices.Clone(args)
	args[1] = key
	if r := brief(do(t, s, 2, args...)); r != answer {
		t.Errorf("P13.1: %q: %s, not %s", args, r, answer)
	}
	if after == "" {
		after = state(former, key)
	}
	if now := state(s, key); now != after {
		t.Errorf("P13.1: behind %q: %s, not %s", args, now, after)
	}
	s.Delete(key)
	former.Delete(key)
	if !sameSpace(s, former) {
		t.Errorf("P13.1: %q has changed another key", args)
	}
}

func checkSeen(t *testing.T, seen map[string]bool, names string) {
	t.Helper()
	for _, name := range strings.Fields(names) {
		if !seen[name] {
			t.Error("no row for", name)
		}
	}
}

// Each command that is for any kind, k being its key: its answers on T, H, L, S, P and N, and what is there then. An empty after: as it was.
func TestCommandsOfAnyKind(t *testing.T) {
	all := func(s string) [6]string { return [6]string{s, s, s, s, s, s} }
	but := func(s, last string) [6]string { return [6]string{s, s, s, s, s, last} }
	ends := func(end string) [6]string {
		var after [6]string
		for i, key := range []string{"T", "H", "L", "S", "P"} {
			after[i] = strings.TrimSuffix(state(five(), key), " @9") + end
		}
		return after
	}
	seen := map[string]bool{}
	for _, x := range []struct {
		command        string
		answers, after [6]string
	}{
		{"SET k 7", all("+OK"), all("string 7")},
		{"SET k ''", all("+OK"), all("string ")},
		{"MSET k 7", all("+OK"), all("string 7")},
		{"PSET k 7-1i", all("+OK"), all("point 7-1i")},
		{"DEL k", but(":1", ":0"), all("none")},
		{"DEL k k", but(":1", ":0"), all("none")},
		{"EXISTS k", but(":1", ":0"), all("")},
		{"TYPE k", [6]string{"+string", "+hash", "+list", "+set", "+point", "+none"}, all("")},
		{"MGET k", [6]string{"[$5]", "[nil]", "[nil]", "[nil]", "[nil]", "[nil]"}, all("")},
		{"EXPIRE k 5", but(":1", ":0"), ends(" @7")},
		{"EXPIRE k 1", but(":1", ":0"), ends(" @3")},
		{"EXPIRE k 0", but(":1", ":0"), all("none")},
		{"EXPIRE k -1", but(":1", ":0"), all("none")},
		{"EXPIRE k -9223372036854775808", but(":1", ":0"), all("none")},
		{"EXPIRE k 9223372036854775807", but(":1", ":0"), ends(" @1099511627776")},
		{"EXPIRE k 1099511627774", but(":1", ":0"), ends(" @1099511627776")},
		{"EXPIRE k 1099511627773", but(":1", ":0"), ends(" @1099511627775")},
		{"TTL k", but(":7", ":-2"), all("")},
		{"PERSIST k", but(":1", ":0"), ends("")},
		{"RESTORE k 0 x", but("-BUSYKEY", "-ERR bad payload"), all("")},
	} {
		args := words(x.command)
		seen[args[0]] = true
		for i, key := range []string{"T", "H", "L", "S", "P", "N"} {
			after := x.after[i]
			if args[0] == "DEL" && len(args) == 3 {
				args[2] = key
			}
			checkOn(t, args, key, x.answers[i], after)
		}
	}
	checkSeen(t, seen, "SET MSET PSET DEL EXISTS TYPE MGET EXPIRE TTL PERSIST RESTORE")
}

func TestSeveralKeys(t *testing.T) {
	run(t, five(), 2,
		"EXISTS T H T N S", ":4",
		"EXISTS N N", ":0",
		"MGET T H T N P", "[$5 nil $5 nil nil]",
		"DEL T H N T P", ":3",
		"EXISTS T H L S P", ":2",
		"MSET a 1 L 2 a 3", "+OK",
		"MGET a L", "[$3 $2]",
		"TTL L", ":-1")
}

func TestCommandsWithoutKeys(t *testing.T) {
	s := five()
	run(t, s, 2,
		"PING", "+PONG", "pInG", "+PONG",
		"ECHO x", "$x", "ECHO ''", "$",
		"KEYSLOT foo", ":12182", "KEYSLOT {foo}x", ":12182", "KEYSLOT ''", ":0",
		"COUNT 12182", ":0", "KEYS 12182 9", "[]",
		"MSET foo 1 {foo}b 2 {foo}a 3", "+OK",
		"COUNT 12182", ":3",
		"KEYS 12182 9", "[$foo ${foo}a ${foo}b]",
		"KEYS 12182 2", "[$foo ${foo}a]",
		"KEYS 12182 1", "[$foo]", "KEYS 12182 0", "[]", "KEYS 12182 -1", "[]", "KEYS 12182 -9223372036854775808", "[]",
		"KEYS 12182 9223372036854775807", "[$foo ${foo}a ${foo}b]",
		"COUNT 0", ":0", "COUNT 16383", ":0",
		"SET '' x", "+OK", "COUNT 0", ":1", "KEYS 0 5", "[$]")
	long := strings.Repeat("x", 70000)
	if r := do(t, five(), 2, "KEYSLOT", long); r.Int != plainSlot(long) || r.Kind != api.Whole {
		t.Error("P13.1: KEYSLOT of a long text:", r)
	}
	if r := Do(five(), []string{"ECHO", long}, 2); r.Text != long || r.Kind != api.Bulk {
		t.Error("P13.1: ECHO of a long text")
	}
}

// Unions and the like of one key, of keys that are not there, of a key named twice, and with one key of another kind.
func TestSetsOfSeveralKeys(t *testing.T) {
	s := five()
	run(t, s, 2, "SADD U b c d", ":3", "SADD V c", ":1",
		"SUNION S U", "[$a $b $c $d]", "SINTER S U", "[$b $c]", "SDIFF S U", "[$a]", "SDIFF U S", "[$d]",
		"SUNION V U S", "[$a $b $c $d]", "SINTER S U V", "[$c]", "SDIFF S V U", "[$a]", "SDIFF S U S", "[]",
		"SUNION S S", "[$a $b $c]", "SINTER S S", "[$a $b $c]", "SDIFF S S", "[]",
		"SUNION N", "[]", "SINTER N", "[]", "SDIFF N", "[]", "SUNION N N", "[]", "SINTER N N", "[]", "SDIFF N N", "[]",
		"SUNION S N", "[$a $b $c]", "SINTER S N", "[]", "SDIFF S N", "[$a $b $c]",
		"SUNION N S", "[$a $b $c]", "SINTER N S", "[]", "SDIFF N S", "[]", "SINTER S N S", "[]", "SUNION V N U", "[$b $c $d]")
	for _, name := range []string{"SUNION", "SINTER", "SDIFF"} {
		for _, other := range []string{"T", "H", "L", "P"} {
			// Also where what is told would be empty anyhow.
			for _, keys := range []string{other, "S " + other, other + " S", "N " + other, "S N " + other, "S " + other + " N", other + " " + other} {
				run(t, s, 2, name+" "+keys, "-WRONGTYPE")
			}
		}
	}
	thirty := strings.Repeat(" N", 30)
	run(t, s, 2, "SUNION"+thirty+" S", "[$a $b $c]", "SINTER"+thirty+" S", "[]", "SDIFF S"+thirty, "[$a $b $c]", "SDIFF S"+thirty+" N", "-ERR wrong number of arguments")
}

func TestUnknownCommandsAndWrongNumbersOfArguments(t *testing.T) {
	for _, args := range [][]string{nil, {}, {""}, {"FOO"}, {"FOO", "x", "y"}, {" GET", "T"}, {"GET ", "T"}, {"GE", "T"}, {"GETT", "T"}, {"GET\x00", "T"}, {"\u017fET", "T", "1"}, {"P\u0131NG"}} {
		if r := brief(do(t, five(), 2, args...)); r != "-ERR unknown command" {
			t.Errorf("P13.1: %q: %s", args, r)
		}
	}
	for _, spec := range table.All() {
		for many := range 40 {
			args := slices.Repeat([]string{"T"}, many+1)
			args[0] = spec.Name
			is := many < spec.Least || many > spec.Most || spec.Name == "MSET" && many%2 == 1
			if r := brief(do(t, five(), 2, args...)); (r == "-ERR wrong number of arguments") != is || r == "-ERR unknown command" {
				t.Errorf("P13.1: %s with %d arguments: %s", spec.Name, many, r)
			}
		}
	}
}

// Small letters are as good as great ones, for every command.
func TestNamesInSmallLetters(t *testing.T) {
	c := chance(131)
	for _, spec := range table.All() {
		args := []string{spec.Name}
		for range spec.Least {
			args = append(args, c.of("T", "H", "1", "0"))
		}
		great, small := five(), five()
		a := Do(great, args, 2)
		args[0] = strings.ToLower(args[0])
		if b := Do(small, args, 2); !reply.Same(a, b) || !sameSpace(great, small) {
			t.Errorf("P13.1: %q: %s, in great letters %s", args, brief(b), brief(a))
		}
	}
}

func TestNumbersThatAreNone(t *testing.T) {
	for _, n := range []string{"x", "''", "05", "-0", "+1", "1.0", "1x", "--1", "-", "9223372036854775808", "-9223372036854775809", "99999999999999999999999", "0x1", "1_0", "\u0661"} {
		for _, key := range []string{"T", "H", "L", "S", "P", "N"} {
			// Of all these the number is looked at ahead of the kind.
			for _, command := range []string{"INCRBY k n", "LINDEX k n", "LRANGE k n 0", "LRANGE k 0 n", "LRANGE k n n", "LTRIM k n 0", "LTRIM k 0 n", "LTRIM k n n", "PTURN k n", "EXPIRE k n"} {
				command = strings.ReplaceAll(strings.ReplaceAll(command, "n", n), "k", key)
				run(t, five(), 2, command, "-ERR not a number")
			}
			run(t, five(), 2, "RESTORE "+key+" "+n+" x", "-ERR not a number")
		}
		run(t, five(), 2, "KEYS 5 "+n, "-ERR not a number", "COUNT "+n, "-ERR no such slot", "KEYS "+n+" 5", "-ERR no such slot", "KEYS "+n+" "+n, "-ERR no such slot")
	}
}

// A text that must be a number, and is none; it is looked at behind n and the kind.
func TestTextsThatAreNoNumbers(t *testing.T) {
	for _, text := range []string{"x", "''", "05", "-0", "9223372036854775808", "1+0i"} {
		s := five()
		run(t, s, 2, "SET T "+text, "+OK", "INCRBY T 1", "-ERR not a number", "INCRBY T 9223372036854775807", "-ERR not a number", "STRLEN T", ":"+strconv.Itoa(len(words(text)[0])))
	}
}

func TestPointsThatAreNone(t *testing.T) {
	for _, p := range []string{"x", "''", "1", "1+2", "2i", "1+2i ", "01+2i", "1+02i", "1-0i", "-0+1i", "+1+1i", "1+-1i", "1048577+0i", "0-1048577i", "99999999999999999999+0i", "1+2I", "1 + 2i"} {
		for _, key := range []string{"T", "H", "L", "S", "P", "N"} {
			for _, name := range []string{"PSET", "PADD", "PMUL"} {
				text := p
				if p == "''" {
					text = ""
				}
				if r := brief(do(t, five(), 2, name, key, text)); r != "-ERR not a point" {
					t.Errorf("P13.1: %s %s %q: %s", name, key, p, r)
				}
			}
		}
	}
}

func TestGreatestAndLeastNumbers(t *testing.T) {
	const greatest, least = "9223372036854775807", "-9223372036854775808"
	s := keyspace.New(room)
	run(t, s, 0,
		"INCRBY a "+greatest, ":"+greatest, "INCRBY a 0", ":"+greatest, "INCRBY a 1", "-ERR overflow", "INCRBY a "+greatest, "-ERR overflow", "GET a", "$"+greatest,
		"INCRBY a "+least, ":-1", "INCRBY a "+least, "-ERR overflow", "INCRBY a 1", ":0", "INCRBY a "+least, ":"+least,
		"INCRBY a -1", "-ERR overflow", "INCRBY a "+least, "-ERR overflow", "INCRBY a 0", ":"+least, "INCRBY a "+greatest, ":-1", "GET a", "$-1",
		"INCRBY b "+least, ":"+least, "GET b", "$"+least,
		"SET c -2", "+OK", "INCRBY c -9223372036854775806", ":"+least, "SET c 2", "+OK", "INCRBY c 9223372036854775805", ":"+greatest, "INCRBY c 1", "-ERR overflow",
		"RPUSH l a b c", ":3",
		"LINDEX l "+greatest, "nil", "LINDEX l "+least, "nil",
		"LRANGE l "+least+" "+greatest, "[$a $b $c]", "LRANGE l "+greatest+" "+least, "[]",
		"LTRIM l "+least+" "+greatest, "+OK", "LLEN l", ":3", "LTRIM l "+greatest+" "+least, "+OK", "EXISTS l", ":0",
		"PSET p 1+2i", "+OK", "PTURN p "+greatest, "$2-1i", "PTURN p "+least, "$2-1i")
}

func TestPointsBeyondTheBounds(t *testing.T) {
	s := keyspace.New(room)
	run(t, s, 0,
		"PSET p 1048576-1048576i", "+OK", "PADD p 1+0i", "-ERR overflow", "PADD p 0-1i", "-ERR overflow", "PADD p -1+1i", "$1048575-1048575i", "PADD p 1-1i", "$1048576-1048576i",
		"PMUL p 1+1i", "-ERR overflow", "PMUL p 2+0i", "-ERR overflow", "PMUL p 1048576+1048576i", "-ERR overflow", "PGET p", "$1048576-1048576i",
		"PMUL p 0+1i", "$1048576+1048576i", "PNORM p", ":2199023255552", "PMUL p 0+0i", "$0+0i", "PGET p", "$0+0i", "PNORM p", ":0",
		"PADD q -1048576+1048576i", "$-1048576+1048576i", "PTURN q 2", "$1048576-1048576i", "PADD q 1048576+0i", "-ERR overflow")
}

// The document's own examples, and what they leave.
func TestExamples(t *testing.T) {
	s := keyspace.New(room)
	run(t, s, 0, "RPUSH l a b", ":2", "LRANGE l 0 -1", "[$a $b]", "GET l", "-WRONGTYPE",
		"INCRBY n 5", ":5", "INCRBY n x", "-ERR not a number", "PMUL p 1+2i", "$0+0i", "EXISTS l n p", ":3",
		"RPUSH m a b c", ":3", "LRANGE m -2 9", "[$b $c]")
}

// HSET: pairs are looked at ahead of the kind.
func TestFieldsThatAreNoPairs(t *testing.T) {
	for _, key := range []string{"T", "H", "L", "S", "P", "N"} {
		for many := 3; many < 31; many += 2 {
			run(t, five(), 2, "HSET "+key+strings.Repeat(" f", many), "-ERR syntax")
		}
	}
	run(t, five(), 2, "HSET T a 1", "-WRONGTYPE", "HSET H a", "-ERR wrong number of arguments", "HSET N"+strings.Repeat(" f", 30), ":1", "HALL N", "[$f $f]")
}

func TestSlotsThatAreNone(t *testing.T) {
	for _, n := range []string{"-1", "16384", "x", "''", "9223372036854775807", "-9223372036854775808", "01"} {
		run(t, five(), 2, "COUNT "+n, "-ERR no such slot", "KEYS "+n+" 1", "-ERR no such slot", "KEYS "+n+" x", "-ERR no such slot", "KEYS "+n+" ''", "-ERR no such slot")
	}
}

// What RESTORE refuses, and which of several it tells: e, BUSYKEY, the payload, ERR past, then the key's length and the room.
func TestRestoreRefuses(t *testing.T) {
	good, _ := value.Dump(api.Value{Kind: api.KindText, Text: "abc"})
	for _, x := range []struct{ key, e, payload, answer string }{
		{"T", "x", "x", "-ERR not a number"}, {"N", "x", "x", "-ERR not a number"}, {"N", "-1", good, "-ERR not a number"}, {"N", "-1", "", "-ERR not a number"},
		{"T", "1099511627777", good, "-ERR not a number"}, {"N", "1099511627777", good, "-ERR not a number"}, {"N", "1099511627776", good, "+OK"},
		{"T", "0", good, "-BUSYKEY"}, {"P", "0", "", "-BUSYKEY"}, {"H", "2", "x", "-BUSYKEY"}, {"L", "1", good, "-BUSYKEY"}, {"S", "5", good, "-BUSYKEY"},
		{"N", "0", "", "-ERR bad payload"}, {"N", "0", "x", "-ERR bad payload"}, {"N", "1", "xyz", "-ERR bad payload"}, {"N", "2", good[1:], "-ERR bad payload"}, {"N", "5", good[:len(good)-1], "-ERR bad payload"}, {"N", "5", good + "x", "-ERR bad payload"},
		{"N", "1", good, "-ERR past"}, {"N", "2", good, "-ERR past"}, {"N", "3", good, "+OK"}, {"N", "0", good, "+OK"},
		{strings.Repeat("k", mostKey+1), "x", good, "-ERR not a number"}, {strings.Repeat("k", mostKey+1), "0", "x", "-ERR bad payload"}, {strings.Repeat("k", mostKey+1), "2", good, "-ERR past"}, {strings.Repeat("k", mostKey+1), "3", good, "-ERR too long"}, {strings.Repeat("k", mostKey), "3", good, "+OK"},
	} {
		if r := brief(do(t, five(), 2, "RESTORE", x.key, x.e, x.payload)); r != x.answer {
			t.Errorf("P13.1: RESTORE %.9s %s %q: %s, not %s", x.key, x.e, x.payload, r, x.answer)
		}
	}
	// 16 for the entry, 3 for the key, 8 for the dump.
	for ends, answer := range map[string]string{"x": "-ERR not a number", "2": "-ERR past", "3": "-OOM"} {
		if r := brief(do(t, keyspace.New(26), 2, "RESTORE", "key", ends, good)); r != answer {
			t.Errorf("P13.1: RESTORE with %s where a byte is missing: %s, not %s", ends, r, answer)
		}
	}
	if r := brief(do(t, keyspace.New(27), 2, "RESTORE", "key", "3", good)); r != "+OK" {
		t.Error("P13.1: RESTORE where it just fits:", r)
	}
}

// P13.3, of the keys of five and of values at their bounds.
func TestDumpIsTakenByRestore(t *testing.T) {
	s := five()
	big := strings.Repeat("x", 1024)
	var items []string
	var pairs []api.Pair
	for i := range api.MaxItems {
		items = append(items, string([]byte{byte(i), 'x'}))
		pairs = append(pairs, api.Pair{Name: string([]byte{byte(i)}), Value: big})
	}
	for key, v := range map[string]api.Value{
		"empty": {Kind: api.KindText}, "text": {Kind: api.KindText, Text: strings.Repeat(big, 4)}, "zero": {Kind: api.KindPoint},
		"list": {Kind: api.KindList, Items: slices.Repeat([]string{big}, api.MaxItems)}, "set": {Kind: api.KindSet, Items: items}, "hash": {Kind: api.KindHash, Pairs: pairs},
	} {
		if e := s.Put(api.Entry{Key: key, Value: v}); e != api.OK {
			t.Fatal(key, e)
		}
	}
	for _, e := range s.All() {
		dump := Do(s, []string{"DUMP", e.Key}, 2)
		if want, _ := value.Dump(e.Value); dump.Kind != api.Bulk || dump.Text != want {
			t.Errorf("P13.1: DUMP %s: %.60q", e.Key, dump.Text)
		}
		for _, ends := range []int{0, 3, api.MaxTime} {
			other := keyspace.New(room)
			r := Do(other, []string{"RESTORE", "k", strconv.Itoa(ends), dump.Text}, 2)
			got, there := other.Get("k")
			if brief(r) != "+OK" || !there || !value.Same(got.Value, e.Value) || got.Ends != ends || other.Len() != 1 {
				t.Errorf("P13.3: %s: %s, %s", e.Key, brief(r), state(other, "k"))
			}
			if again := Do(other, []string{"DUMP", "k"}, 2); !reply.Same(again, dump) {
				t.Errorf("P13.3: %s: another DUMP", e.Key)
			}
			if again := brief(Do(other, []string{"RESTORE", "k", "0", dump.Text}, 2)); again != "-BUSYKEY" {
				t.Errorf("P13.1: %s: a second RESTORE: %s", e.Key, again)
			}
		}
	}
	run(t, s, 2, "DUMP N", "nil")
}

// Keys of MaxBulk bytes, and of one more: these are never there, and no command makes them be there.
func TestLongKeys(t *testing.T) {
	dump, _ := value.Dump(api.Value{Kind: api.KindText, Text: "5"})
	most, beyond := strings.Repeat("k", mostKey), strings.Repeat("k", mostKey+1)
	for _, x := range [][]string{
		{"SET k 5", "+OK", "-ERR too long"}, {"MSET k 5", "+OK", "-ERR too long"}, {"APPEND k 5", ":1", "-ERR too long"}, {"APPEND k ''", ":0", "-ERR too long"}, {"INCRBY k 5", ":5", "-ERR too long"},
		{"HSET k a 1", ":1", "-ERR too long"}, {"LPUSH k a", ":1", "-ERR too long"}, {"RPUSH k a", ":1", "-ERR too long"}, {"SADD k a", ":1", "-ERR too long"},
		{"PSET k 1+1i", "+OK", "-ERR too long"}, {"PADD k 1+1i", "$1+1i", "-ERR too long"}, {"PMUL k 1+1i", "$0+0i", "-ERR too long"}, {"PTURN k 1", "$0+0i", "-ERR too long"},
		{"MSET a 1 k 5", "+OK", "-ERR too long"}, {"MSET k 1 a 5", "+OK", "-ERR too long"},
		{"INCRBY k x", "-ERR not a number", "-ERR not a number"}, {"PADD k x", "-ERR not a point", "-ERR not a point"}, {"PSET k x", "-ERR not a point", "-ERR not a point"}, {"HSET k a b c", "-ERR syntax", "-ERR syntax"},
		{"GET k", "nil", "nil"}, {"DEL k", ":0", ":0"}, {"EXISTS k", ":0", ":0"}, {"TYPE k", "+none", "+none"}, {"STRLEN k", ":0", ":0"}, {"MGET k", "[nil]", "[nil]"},
		{"HDEL k a", ":0", ":0"}, {"LPOP k", "nil", "nil"}, {"RPOP k", "nil", "nil"}, {"LTRIM k 0 1", "+OK", "+OK"}, {"SREM k a", ":0", ":0"}, {"SUNION k", "[]", "[]"},
		{"EXPIRE k 1", ":0", ":0"}, {"TTL k", ":-2", ":-2"}, {"PERSIST k", ":0", ":0"}, {"DUMP k", "nil", "nil"},
	} {
		for i, key := range []string{most, beyond} {
			args := words(x[0])
			for j := range args[1:] {
				if args[j+1] == "k" {
					args[j+1] = key
				}
			}
			if r := brief(do(t, five(), 2, args...)); r != x[1+i] {
				t.Errorf("P13.1: %s, k being of %d bytes: %s, not %s", x[0], len(key), r, x[1+i])
			}
		}
	}
	if r := brief(do(t, five(), 2, "RESTORE", beyond, "0", dump)); r != "-ERR too long" {
		t.Error("P13.1: RESTORE of a long key:", r)
	}
}

// Values that would not be Right.
func TestLongValues(t *testing.T) {
	most := strings.Repeat("x", 1024)
	text := strings.Repeat(most, 4)
	for _, x := range []struct {
		args   []string
		answer string
	}{
		{[]string{"SET", "N", text}, "+OK"}, {[]string{"SET", "N", text + "x"}, "-ERR too long"}, {[]string{"SET", "H", text + "x"}, "-ERR too long"},
		{[]string{"MSET", "N", text, "T", text}, "+OK"}, {[]string{"MSET", "N", text, "T", text + "x"}, "-ERR too long"}, {[]string{"MSET", "N", text + "x", "N", ""}, "-ERR too long"},
		{[]string{"APPEND", "T", text[1:]}, ":4096"}, {[]string{"APPEND", "T", text}, "-ERR too long"}, {[]string{"APPEND", "N", text}, ":4096"}, {[]string{"APPEND", "N", text + "x"}, "-ERR too long"}, {[]string{"APPEND", "L", text + "x"}, "-WRONGTYPE"},
		{[]string{"HSET", "H", most, most}, ":1"}, {[]string{"HSET", "H", most + "x", "1"}, "-ERR too long"}, {[]string{"HSET", "H", "a", most + "x"}, "-ERR too long"}, {[]string{"HSET", "N", "a", "1", "b", most + "x"}, "-ERR too long"},
		// What the value is in between does not count.
		{[]string{"HSET", "H", "a", most + "x", "a", "1"}, ":0"},
		{[]string{"HDEL", "H", most + "x"}, ":0"}, {[]string{"HGET", "H", most + "x"}, "nil"},
		{[]string{"LPUSH", "L", most}, ":4"}, {[]string{"LPUSH", "L", most + "x"}, "-ERR too long"}, {[]string{"RPUSH", "N", "a", most + "x"}, "-ERR too long"}, {[]string{"RPUSH", "T", most + "x"}, "-WRONGTYPE"},
		{[]string{"SADD", "S", most}, ":1"}, {[]string{"SADD", "S", most + "x"}, "-ERR too long"}, {[]string{"SADD", "N", "a", most + "x"}, "-ERR too long"}, {[]string{"SREM", "S", most + "x"}, ":0"}, {[]string{"SHAS", "S", most + "x"}, ":0"},
	} {
		if r := brief(do(t, five(), 2, x.args...)); r != x.answer {
			t.Errorf("P13.1: %.30q: %s, not %s", x.args, r, x.answer)
		}
	}
}

// Hashes, lists and sets of MaxItems things, and of one more.
func TestManyItems(t *testing.T) {
	for _, name := range []string{"LPUSH", "RPUSH", "SADD", "HSET"} {
		s := keyspace.New(room)
		fill := func(n int) api.Reply { // n more
			args := []string{name, "k"}
			for range n {
				args = append(args, "x"+strconv.Itoa(s.Memory())+"y"+strconv.Itoa(len(args)))
				if name == "HSET" {
					args = append(args, "1")
				}
			}
			return do(t, s, 0, args...)
		}
		for range 25 {
			fill(10)
		}
		if r := brief(fill(7)); r != "-ERR too long" {
			t.Error("P13.1:", name, "to 257:", r)
		}
		if r := fill(6); r.Kind != api.Whole {
			t.Error("P13.1:", name, "to 256:", brief(r))
		}
		if r := brief(fill(1)); r != "-ERR too long" {
			t.Error("P13.1:", name, "of one more:", r)
		}
		e, _ := s.Get("k")
		if n := len(e.Value.Items) + len(e.Value.Pairs); n != 256 {
			t.Error("P13.1:", name, "left", n)
		}
	}
	// A full hash or set takes what it has already.
	s := keyspace.New(room)
	for i := range 256 {
		do(t, s, 0, "HSET", "h", strconv.Itoa(i), "1")
		do(t, s, 0, "SADD", "s", strconv.Itoa(i))
	}
	run(t, s, 0, "HSET h 5 2 6 3", ":0", "HGET h 5", "$2", "SADD s 5 6", ":0", "HSET h 5 3 x 1", "-ERR too long", "HGET h 5", "$2", "SADD s 5 x", "-ERR too long", "HLEN h", ":256", "SCARD s", ":256", "HDEL h 0", ":1", "HSET h x 1", ":1", "SREM s 0", ":1", "SADD s x", ":1")
}

func TestValuesThatBecomeEmptyGo(t *testing.T) {
	s := five()
	run(t, s, 2,
		"HDEL H a", ":1", "HDEL H b", ":1", "TYPE H", "+none",
		"LPOP L", "$b", "RPOP L", "$b", "LPOP L", "$a", "TYPE L", "+none", "LPOP L", "nil", "RPOP L", "nil",
		"RPUSH L x", ":1", "TTL L", ":-1", "RPOP L", "$x", "EXISTS L", ":0", "RPUSH L x", ":1", "LTRIM L 1 5", "+OK", "EXISTS L", ":0",
		"SREM S a b", ":2", "SREM S c", ":1", "TYPE S", "+none",
		"EXISTS H L S", ":0",
		// They may be of another kind then.
		"SADD H a", ":1", "HSET L a 1", ":1", "RPUSH S a", ":1",
		// Texts and points that are empty stay.
		"SET T ''", "+OK", "EXISTS T", ":1", "PMUL P 0+0i", "$0+0i", "EXISTS P", ":1")
	if s.Len() != 5 {
		t.Error("P13.1:", s.Len(), "keys")
	}
}

func TestEndsIsKept(t *testing.T) {
	dump, _ := value.Dump(api.Value{Kind: api.KindText, Text: "abc"})
	s := keyspace.New(room)
	run(t, s, 3,
		"SET t 5", "+OK", "EXPIRE t 5", ":1", "TTL t", ":5", "INCRBY t 1", ":6", "APPEND t 1", ":2", "TTL t", ":5", "SET t 5", "+OK", "TTL t", ":-1",
		"EXPIRE t 5", ":1", "MSET t 5", "+OK", "TTL t", ":-1", "EXPIRE t 5", ":1", "PSET t 5+0i", "+OK", "TTL t", ":-1",
		"EXPIRE t 5", ":1", "PADD t 1+0i", "$6+0i", "PMUL t 1+0i", "$6+0i", "PTURN t 1", "$0+6i", "TTL t", ":5", "PERSIST t", ":1", "TTL t", ":-1", "PERSIST t", ":0",
		"EXPIRE t 5", ":1", "EXPIRE t 8", ":1", "TTL t", ":8", "EXPIRE t 2", ":1", "TTL t", ":2")
	run(t, s, 4, "TTL t", ":1", "EXPIRE t 8", ":1", "TTL t", ":8")
	run(t, s, 11, "TTL t", ":1", "EXISTS t", ":1")
	run(t, s, 12, "TTL t", ":-2", "EXISTS t", ":0", "PERSIST t", ":0", "EXPIRE t 5", ":0", "INCRBY t 1", ":1", "TTL t", ":-1")
	if r := brief(do(t, s, 12, "RESTORE", "r", "15", dump)); r != "+OK" {
		t.Error(r)
	}
	run(t, s, 12, "TTL r", ":3", "EXPIRE r 9", ":1", "TTL r", ":9", "DEL r", ":1")
	if r := brief(do(t, s, 12, "RESTORE", "r", "0", dump)); r != "+OK" {
		t.Error(r)
	}
	run(t, s, 12, "TTL r", ":-1")
}

// The bounds of EXPIRE, and TTL and PERSIST behind each.
func TestEndsAtItsBounds(t *testing.T) {
	for _, x := range []struct {
		now     int
		n       string
		ttl     int // 0: it goes
		persist string
	}{
		{0, "0", 0, ":0"}, {0, "-1", 0, ":0"}, {0, "-9223372036854775808", 0, ":0"}, {0, "1", 1, ":1"},
		{0, "1099511627776", api.MaxTime, ":1"}, {0, "1099511627777", api.MaxTime, ":1"}, {0, "9223372036854775807", api.MaxTime, ":1"},
		{7, "1099511627768", api.MaxTime - 8, ":1"}, {7, "1099511627769", api.MaxTime - 7, ":1"}, {7, "1099511627770", api.MaxTime - 7, ":1"}, {7, "9223372036854775807", api.MaxTime - 7, ":1"}, {7, "-7", 0, ":0"}, {7, "-3", 0, ":0"},
		{api.MaxTime - 1, "1", 1, ":1"}, {api.MaxTime - 1, "2", 1, ":1"}, {api.MaxTime - 1, "0", 0, ":0"},
		// At the last time of all nothing is above the clock.
		{api.MaxTime, "1", 0, ":0"}, {api.MaxTime, "9223372036854775807", 0, ":0"}, {math.MaxInt, "5", 0, ":0"}, {math.MaxInt, "-5", 0, ":0"},
	} {
		s := keyspace.New(room)
		ttl, persisted := ":"+strconv.Itoa(x.ttl), ":-1"
		if x.ttl == 0 {
			ttl, persisted = ":-2", ":-2"
		}
		run(t, s, x.now, "SET k 1", "+OK", "EXPIRE k "+x.n, ":1", "TTL k", ttl, "PERSIST k", x.persist, "TTL k", persisted, "PERSIST k", ":0", "EXPIRE none "+x.n, ":0")
	}
}

// Keys that have ended at the time of the command are not there for it, whatever it is; a clock does not go back.
func TestKeysThatHaveEnded(t *testing.T) {
	for _, x := range [][2]string{
		{"GET T", "nil"}, {"STRLEN T", ":0"}, {"APPEND T x", ":1"}, {"INCRBY T 1", ":1"}, {"MGET T", "[nil]"}, {"EXISTS T H L S P", ":0"}, {"TYPE T", "+none"}, {"DEL T H L S P", ":0"},
		{"HGET H a", "nil"}, {"HSET H a 1", ":1"}, {"HSET T a 1", ":1"}, {"LLEN L", ":0"}, {"RPUSH L a", ":1"}, {"SUNION S T", "[]"}, {"SADD T a", ":1"}, {"PGET P", "nil"}, {"PADD P 1+1i", "$1+1i"},
		{"TTL T", ":-2"}, {"PERSIST T", ":0"}, {"EXPIRE T 5", ":0"}, {"DUMP T", "nil"}, {"RESTORE T 0 x", "-ERR bad payload"}, {"COUNT " + strconv.Itoa(plainSlot("T")), ":0"}, {"KEYS " + strconv.Itoa(plainSlot("T")) + " 9", "[]"},
	} {
		run(t, five(), 9, x[0], x[1])
	}
	// The clock moves on also by commands that are none, and by those without keys.
	for _, command := range []string{"FOO", "GET", "PING", "COUNT x"} {
		s := five()
		do(t, s, 9, words(command)...)
		if s.Now() != 9 || s.Len() != 0 {
			t.Error("P13.1:", command, "at 9: the clock is", s.Now(), "and there are", s.Len())
		}
	}
	s := five()
	run(t, s, -5, "TTL T", ":7", "EXPIRE T 3", ":1")
	run(t, s, 1, "TTL T", ":3")
	run(t, s, 4, "TTL T", ":1")
	run(t, s, 3, "TTL T", ":1")
	run(t, s, 5, "TTL T", ":-2")
	run(t, s, math.MinInt, "SET T 1", "+OK", "EXPIRE T 1", ":1")
	if e, _ := s.Get("T"); s.Now() != 5 || e.Ends != 6 {
		t.Error("P13.1:", s.Now(), e.Ends)
	}
}

// A room that is full: what would take more is OOM, and changes nothing; what takes no more is done.
func TestFullSpace(t *testing.T) {
	s := five()
	full := keyspace.New(s.Memory())
	for _, e := range s.All() {
		full.Put(e)
	}
	dump, _ := value.Dump(api.Value{Kind: api.KindText, Text: "5"})
	for _, x := range [][2]string{
		{"SET N 1", "-OOM"}, {"SET T 12", "-OOM"}, {"SET T 7", "+OK"}, {"SET T ''", "+OK"}, {"SET H 1", "+OK"},
		{"APPEND T 1", "-OOM"}, {"APPEND T ''", ":1"}, {"APPEND N ''", "-OOM"}, {"INCRBY T 4", ":9"}, {"INCRBY T 5", "-OOM"}, {"INCRBY N 5", "-OOM"},
		{"MSET T 7 N 1", "-OOM"}, {"MSET N 1 T 7", "-OOM"}, {"MSET H 1 N 1", "-OOM"}, {"MSET L '' N ''", "-OOM"}, {"MSET T '' H 1", "+OK"}, {"MSET T 12 T 1", "-OOM"}, {"MSET T '' H '' L '' S '' P '' N 1", "+OK"},
		{"HSET H a 7", ":0"}, {"HSET H a 77", "-OOM"}, {"HSET H c ''", "-OOM"}, {"HSET N a 1", "-OOM"}, {"HDEL H a", ":1"},
		{"LPUSH L ''", "-OOM"}, {"RPUSH L ''", "-OOM"}, {"LPUSH N ''", "-OOM"}, {"LPOP L", "$b"}, {"RPOP L", "$b"}, {"LTRIM L 0 1", "+OK"},
		{"SADD S a", ":0"}, {"SADD S d", "-OOM"}, {"SADD N a", "-OOM"}, {"SREM S a", ":1"},
		{"PSET P 1+1i", "+OK"}, {"PSET T 1+1i", "-OOM"}, {"PSET N 1+1i", "-OOM"}, {"PADD P 1+1i", "$4-3i"}, {"PADD N 1+1i", "-OOM"}, {"PMUL N 1+1i", "-OOM"}, {"PTURN N 1", "-OOM"}, {"PTURN P 1", "$4+3i"},
		{"EXPIRE T 90", ":1"}, {"PERSIST T", ":1"}, {"DEL T H", ":2"},
		// OOM is the last of the Faults.
		{"INCRBY N x", "-ERR not a number"}, {"PADD N x", "-ERR not a point"}, {"HSET N a b c", "-ERR syntax"}, {"APPEND H 1", "-WRONGTYPE"}, {"SET N " + strings.Repeat("x", 4097), "-ERR too long"},
		// Of several pairs the first that has a Fault tells it.
		{"MSET N 1 T " + strings.Repeat("x", 4097), "-OOM"}, {"MSET T " + strings.Repeat("x", 4097) + " N 1", "-ERR too long"}, {"MSET T 1 N 1 T " + strings.Repeat("x", 4097), "-OOM"},
	} {
		run(t, full.Clone(), 2, x[0], x[1])
	}
	if r := brief(do(t, full.Clone(), 2, "RESTORE", "N", "0", dump)); r != "-OOM" {
		t.Error("P13.1: RESTORE:", r)
	}
	for _, room := range []int{math.MinInt, -1, 0, 16} {
		run(t, keyspace.New(room), 2, "SET '' ''", "-OOM", "MSET '' ''", "-OOM", "APPEND '' ''", "-OOM", "INCRBY a 1", "-OOM", "DEL a", ":0", "LTRIM a 0 1", "+OK")
	}
}

// All keys that a node may have are there.
func TestMaxKeys(t *testing.T) {
	s := keyspace.New(room)
	for i := range api.MaxKeys {
		if r := Do(s, []string{"SET", strconv.Itoa(i), "1"}, 0); brief(r) != "+OK" {
			t.Fatal(i, brief(r))
		}
	}
	dump := Do(s, []string{"DUMP", "5"}, 0).Text
	run(t, s, 0, "SET x 1", "-OOM", "APPEND x 1", "-OOM", "INCRBY x 1", "-OOM", "HSET x a 1", "-OOM", "LPUSH x 1", "-OOM", "SADD x 1", "-OOM", "PSET x 1+1i", "-OOM", "PTURN x 1", "-OOM",
		"MSET 5 2 x 1", "-OOM", "GET 5", "$1", "MSET 5 2 6 2", "+OK", "GET 5", "$2", "INCRBY 6 1", ":3")
	if r := brief(do(t, s, 0, "RESTORE", "x", "0", dump)); r != "-OOM" {
		t.Error("P13.1: RESTORE:", r)
	}
	run(t, s, 0, "DEL 7", ":1", "MSET x 1 y 1", "-OOM", "EXISTS x y", ":0", "SET x 1", "+OK", "SET y 1", "-OOM")
	if s.Len() != api.MaxKeys {
		t.Error("P13.1:", s.Len())
	}
}

// MSET with a Fault behind good pairs: all is as it was, with the kinds and Ends that there were.
func TestFaultOfALaterPair(t *testing.T) {
	beyond := strings.Repeat("x", 4097)
	for _, keys := range []string{"T", "N", "H L", "S P N", "T T", "N N", "H N H", "T H L S P N M O Q R U V W X"} {
		args := []string{"MSET"}
		for _, k := range strings.Fields(keys) {
			args = append(args, k, "new")
		}
		for _, last := range []string{"N", "T", "Z"} {
			s := five()
			if r := brief(do(t, s, 2, append(slices.Clone(args), last, beyond)...)); r != "-ERR too long" || !sameSpace(s, five()) {
				t.Errorf("P13.1: MSET of %s, and then of %s: %s", keys, last, r)
			}
		}
		s := five()
		if r := brief(do(t, s, 2, args...)); r != "+OK" {
			t.Errorf("P13.1: MSET of %s: %s", keys, r)
		}
		for _, k := range strings.Fields(keys) {
			if got := state(s, k); got != "string new" {
				t.Errorf("P13.1: MSET of %s: %s is %s", keys, k, got)
			}
		}
	}
	// Each pair finds what those ahead left: the room of a key that became less, or more.
	s := keyspace.New(60)
	run(t, s, 0, "SET a 1234567890123456789012", "+OK", "SET b 1", "-OOM", "MSET b 1 a 1", "-OOM", "MSET a 1 b 1", "+OK", "MGET a b", "[$1 $1]",
		"MSET a 12345 b 123456789012", "-OOM", "MGET a b", "[$1 $1]", "MSET a 1234567890123 a 1 b 2", "+OK", "MGET a b", "[$1 $2]", "MSET a 12345678901234567 a 1 b 3", "-OOM", "MGET a b", "[$1 $2]")
}

// R6: to write into what was told, or into what was handed in, changes nothing that is told later.
func TestWhatIsToldIsTheCallersOwn(t *testing.T) {
	for _, command := range []string{"HALL H", "LRANGE L 0 -1", "SALL S", "SUNION S", "SUNION S S", "SINTER S", "SDIFF S", "SDIFF S N", "MGET T H", "KEYS " + strconv.Itoa(plainSlot("T")) + " 9"} {
		s := five()
		first := do(t, s, 2, words(command)...)
		want := brief(first)
		all := first.List[:cap(first.List)]
		for i := range all {
			all[i] = fault("?")
		}
		if got := brief(do(t, s, 2, words(command)...)); got != want || !sameSpace(s, five()) {
			t.Errorf("R6: %s: %s, and behind a writing into that %s", command, want, got)
		}
	}
	for _, command := range []string{"SET N a", "MSET N a M b", "APPEND N a", "HSET N a 1 b 2", "LPUSH N a b c", "RPUSH N a b c", "SADD N a b c", "SADD N c b a", "PSET N 1+1i", "ECHO a", "HDEL H a", "SREM S c a"} {
		s, other := five(), five()
		args := words(command)
		r := Do(s, args, 2)
		want := Do(other, words(command), 2)
		for i := range args {
			args[i] = "?"
		}
		if !sameSpace(s, other) || !reply.Same(r, want) {
			t.Errorf("R6: %s has kept its arguments", command)
		}
	}
	// A clone of the space is not touched.
	s := five()
	c := s.Clone()
	run(t, s, 2, "HSET H a 9", ":0", "HDEL H b", ":1", "RPUSH L x", ":4", "LTRIM L 1 1", "+OK", "SADD S x", ":1", "SREM S a", ":1", "PTURN P 1", "$4+3i", "EXPIRE T 1", ":1", "MSET T 1 N 1", "+OK")
	if !sameSpace(c, five()) {
		t.Error("R6: a clone has changed with the space")
	}
}

// chance is a row of numbers that look like chance, the same at every run.
type chance uint64

func (c *chance) below(n int) int {
	*c = *c*6364136223846793005 + 1442695040888963407
	return int(uint64(*c)>>33) % n
}

func (c *chance) of(l ...string) string { return l[c.below(len(l))] }

func (c *chance) key() string {
	if c.below(60) == 0 {
		return strings.Repeat("k", mostKey+c.below(2))
	}
	return c.of("a", "b", "c", "d", "", "{a}b", "{a}c", "\xff\x00")
}

func (c *chance) text() string {
	if c.below(25) == 0 {
		return strings.Repeat(c.of("x", "y"), []int{1023, 1024, 1025, 4095, 4096, 4097}[c.below(6)])
	}
	return c.of("", "a", "b", "c", "d", "e", "ab", "\x00", "\xff", "5", "-5", "12", "05", "9223372036854775807", "-9223372036854775808", "x", "1+2i")
}

func (c *chance) number() string {
	return c.of("0", "1", "-1", "2", "-2", "3", "-3", "5", "9", "9", "-9", "40", "1099511627775", "1099511627776", "1099511627777", "9223372036854775807", "-9223372036854775808", "9223372036854775808", "x", "", "-0", "01")
}

func (c *chance) point() string {
	return c.of("0+0i", "1+0i", "0+1i", "1+2i", "3-4i", "-1-1i", "1000+1000i", "1048576-1048576i", "-1048576+0i", "1048577+0i", "1-0i", "x", "")
}

// payload is a dump of what a key has, perhaps spoilt.
func (c *chance) payload(s *keyspace.Space) string {
	r := Do(s, []string{"DUMP", c.key()}, math.MinInt)
	if b := []byte(r.Text); len(b) > 0 && c.below(5) == 0 {
		b[c.below(len(b))] ^= 1 << c.below(8)
		return string(b)
	}
	return r.Text
}

// command is one of the table's, mostly with arguments that fit.
func (c *chance) command(s *keyspace.Space) []string {
	all := table.All()
	spec := all[c.below(len(all))]
	args := []string{spec.Name}
	if c.below(2) == 0 {
		args[0] = strings.ToLower(spec.Name)
	}
	many := spec.Least + c.below(min(spec.Most-spec.Least, 5)+1)
	if c.below(40) == 0 {
		many = c.below(33)
	}
	for at := 1; at <= many; at++ {
		switch {
		case spec.First > 0 && at >= spec.First && (spec.Last == -1 || at == 1) && (at-1)%spec.Step == 0:
			args = append(args, c.key())
		case spec.Name == "RESTORE" && at == 3:
			args = append(args, c.payload(s))
		case strings.Contains(" INCRBY LINDEX LRANGE LTRIM PTURN EXPIRE RESTORE ", " "+spec.Name+" ") || spec.Name == "KEYS" && at == 2:
			args = append(args, c.number())
		case strings.Contains(" PSET PADD PMUL ", " "+spec.Name+" "):
			args = append(args, c.point())
		case spec.Name == "COUNT" || spec.Name == "KEYS":
			args = append(args, c.of(strconv.Itoa(plainSlot(c.key())), "0", "16383", "16384", "-1", "x"))
		default:
			args = append(args, c.text())
		}
	}
	return args
}

// Long rows of commands by chance, each held against the plain model: its answer, and all that is there.
func TestCommandsByChance(t *testing.T) {
	answers := map[string]int{}
	for seed := range 8 {
		for _, room := range []int{-1, 0, 60, 150, 400, 3000, 20000, 1 << 30} {
			c := chance(1300 + seed)
			s, p := keyspace.New(room), newPlain(room)
			now := 0
			for range 2500 {
				switch c.below(30) {
				case 0:
					now += 1 + c.below(9)
				case 1:
					now -= c.below(3)
				case 2:
					if c.below(60) == 0 {
						now = api.MaxTime - c.below(20)
					}
				}
				args := c.command(s)
				got, want := do(t, s, now, args...), p.do(args, now)
				if !reply.Same(got, want) {
					t.Fatalf("P13.1: room %d: %.200q at %d: %.200s, not %.200s", room, args, now, brief(got), brief(want))
				}
				if s.Now() != p.clock || s.Memory() != p.memory() || !slices.EqualFunc(s.All(), p.entries(), sameEntry) {
					t.Fatalf("P13.1: room %d: %.200q at %d, answered %.200s: the space is not the model's", room, args, now, brief(got))
				}
				if got.Kind == api.Fault {
					answers[got.Text]++
				} else {
					answers[strings.ToUpper(args[0])]++
				}
			}
		}
	}
	// Rows that never come to a command or to a Fault would show nothing of it.
	for _, spec := range table.All() {
		if answers[spec.Name] < 20 {
			t.Error("only", answers[spec.Name], "of", spec.Name)
		}
	}
	for _, f := range []string{wrongMany, wrongKind, notNumber, notPoint, overflow, noPairs, noSlot, badPayload, busyKey, past, tooLong, noRoom} {
		if answers[f] < 20 {
			t.Error("only", answers[f], "of", f)
		}
	}
}

// R7: the same commands tell the same, in a clone too.
func TestTheSameCommandsTellTheSame(t *testing.T) {
	c := chance(1377)
	a, b := keyspace.New(3000), keyspace.New(3000)
	for now := range 3000 {
		args := c.command(a)
		if x, y := Do(a, args, now/20), Do(b, args, now/20); !reply.Same(x, y) || !sameSpace(a, b) {
			t.Fatalf("R7: %.200q: %.200s and %.200s", args, brief(x), brief(y))
		}
		if now%100 == 0 {
			b = a.Clone()
		}
	}
}
