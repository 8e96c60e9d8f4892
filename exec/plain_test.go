package exec

import (
	"regexp"
	"slices"
	"strconv"
	"strings"

	"marshalyard/api"
	"marshalyard/value"
)

// A plain model of the chapter: its sentences one by one, on maps, with the state copied ahead of each command and brought back behind a Fault. Of the other layers it takes only what a dump is.

// thing is what a key has: kind is the chapter's sign of it.
type thing struct {
	kind   byte
	text   string
	hash   map[string]string
	items  []string // of a list or, rising, of a set
	re, im int
	ends   int
}

type plain struct {
	room, clock int
	keys        map[string]thing
}

func newPlain(room int) *plain { return &plain{room: room, keys: map[string]thing{}} }

func (x thing) copied() thing {
	hash := map[string]string{}
	for f, v := range x.hash {
		hash[f] = v
	}
	x.hash = hash
	x.items = slices.Clone(x.items)
	return x
}

func (x thing) fields() []string {
	var all []string
	for f := range x.hash {
		all = append(all, f)
	}
	slices.Sort(all)
	return all
}

func (x thing) value() api.Value {
	switch x.kind {
	case 'T':
		return api.Value{Kind: api.KindText, Text: x.text}
	case 'H':
		v := api.Value{Kind: api.KindHash}
		for _, f := range x.fields() {
			v.Pairs = append(v.Pairs, api.Pair{Name: f, Value: x.hash[f]})
		}
		return v
	case 'L':
		return api.Value{Kind: api.KindList, Items: x.items}
	case 'S':
		return api.Value{Kind: api.KindSet, Items: x.items}
	}
	return api.Value{Kind: api.KindPoint, Point: api.Point{Re: x.re, Im: x.im}}
}

func thingOf(v api.Value) thing {
	x := thing{kind: "?THLSP"[v.Kind], text: v.Text, items: slices.Clone(v.Items), re: v.Point.Re, im: v.Point.Im, hash: map[string]string{}}
	for _, p := range v.Pairs {
		x.hash[p.Name] = p.Value
	}
	return x
}

// right is chapter 10's word, but for a point's parts, which are looked at where they are reckoned.
func (x thing) right() bool {
	for f, v := range x.hash {
		if len(f) > 1024 || len(v) > 1024 {
			return false
		}
	}
	for _, s := range x.items {
		if len(s) > 1024 {
			return false
		}
	}
	return len(x.text) <= 4096 && len(x.hash) <= 256 && len(x.items) <= 256
}

func (x thing) bytes() int {
	n := 3
	switch x.kind {
	case 'T':
		n += 2 + len(x.text)
	case 'H':
		n += 2
		for f, v := range x.hash {
			n += 4 + len(f) + len(v)
		}
	case 'L', 'S':
		n += 2
		for _, s := range x.items {
			n += 2 + len(s)
		}
	case 'P':
		n += 8
	}
	return n
}

func (p *plain) memory() int {
	n := 0
	for k, x := range p.keys {
		n += 16 + len(k) + x.bytes()
	}
	return n
}

func (p *plain) entries() []api.Entry {
	var names []string
	for k := range p.keys {
		names = append(names, k)
	}
	slices.Sort(names)
	var all []api.Entry
	for _, k := range names {
		all = append(all, api.Entry{Key: k, Value: p.keys[k].value(), Ends: p.keys[k].ends})
	}
	return all
}

func (p *plain) copied() map[string]thing {
	keys := map[string]thing{}
	for k, x := range p.keys {
		keys[k] = x.copied()
	}
	return keys
}

func (p *plain) tick(now int) {
	p.clock = max(p.clock, min(now, 1<<40))
	for k, x := range p.keys {
		if x.ends > 0 && x.ends <= p.clock {
			delete(p.keys, k)
		}
	}
}

func bulk(s string) api.Reply  { return api.Reply{Kind: api.Bulk, Text: s} }
func whole(n int) api.Reply    { return api.Reply{Kind: api.Whole, Int: n} }
func fault(s string) api.Reply { return api.Reply{Kind: api.Fault, Text: s} }
func nothing() api.Reply       { return api.Reply{Kind: api.Nil} }
func okay() api.Reply          { return api.Reply{Kind: api.Simple, Text: "OK"} }
func many(l []string) api.Reply {
	r := api.Reply{Kind: api.Many}
	for _, s := range l {
		r.List = append(r.List, bulk(s))
	}
	return r
}

var numberForm = regexp.MustCompile(`^(0|-?[1-9][0-9]*)$`)
var pointForm = regexp.MustCompile(`^(0|-?[1-9][0-9]*)(\+0|[+-][1-9][0-9]*)i$`)

func isNumber(s string) (int, bool) {
	n, err := strconv.ParseInt(s, 10, 64)
	return int(n), err == nil && numberForm.MatchString(s)
}

func isPoint(s string) (int, int, bool) {
	m := pointForm.FindStringSubmatch(s)
	if m == nil {
		return 0, 0, false
	}
	re, err1 := strconv.Atoi(m[1])
	im, err2 := strconv.Atoi(strings.TrimPrefix(m[2], "+"))
	return re, im, err1 == nil && err2 == nil && inBounds(re, im)
}

func inBounds(re, im int) bool {
	return max(re, im) <= 1<<20 && min(re, im) >= -1<<20
}

func pointText(re, im int) string {
	if im < 0 {
		return strconv.Itoa(re) + strconv.Itoa(im) + "i"
	}
	return strconv.Itoa(re) + "+" + strconv.Itoa(im) + "i"
}

// put is a Fault, or none: "".
func (p *plain) put(key string, x thing) string {
	if len(key) > 1024 || !x.right() {
		return "ERR too long"
	}
	former := p.memory()
	old, there := p.keys[key]
	if !there && len(p.keys) >= 4096 {
		return "OOM"
	}
	p.keys[key] = x
	if m := p.memory(); m > p.room && m > former {
		delete(p.keys, key)
		if there {
			p.keys[key] = old
		}
		return "OOM"
	}
	return ""
}

// do is the chapter's Do.
func (p *plain) do(args []string, now int) api.Reply {
	p.tick(now)
	kept := p.copied()
	r := p.command(args)
	if r.Kind == api.Fault {
		p.keys = kept
	}
	return r
}

// rules are each command's: least and most arguments behind the name, the sign of its kind, and which arguments must be what, ahead of the kind (n a number, p a point, e an end, s a slot, 2 pairs from there on).
var rules = map[string]struct {
	least, most int
	sign        byte
	ahead       string
}{
	"PING": {0, 0, 0, ""}, "ECHO": {1, 1, 0, ""}, "GET": {1, 1, 'T', ""}, "SET": {2, 2, 0, ""}, "DEL": {1, 31, 0, ""}, "EXISTS": {1, 31, 0, ""}, "TYPE": {1, 1, 0, ""},
	"APPEND": {2, 2, 'T', ""}, "STRLEN": {1, 1, 'T', ""}, "INCRBY": {2, 2, 'T', " n"}, "MGET": {1, 31, 0, ""}, "MSET": {2, 30, 0, ""},
	"HSET": {3, 31, 'H', " 2"}, "HGET": {2, 2, 'H', ""}, "HDEL": {2, 31, 'H', ""}, "HLEN": {1, 1, 'H', ""}, "HALL": {1, 1, 'H', ""},
	"LPUSH": {2, 31, 'L', ""}, "RPUSH": {2, 31, 'L', ""}, "LPOP": {1, 1, 'L', ""}, "RPOP": {1, 1, 'L', ""}, "LLEN": {1, 1, 'L', ""}, "LINDEX": {2, 2, 'L', " n"}, "LRANGE": {3, 3, 'L', " nn"}, "LTRIM": {3, 3, 'L', " nn"},
	"SADD": {2, 31, 'S', ""}, "SREM": {2, 31, 'S', ""}, "SHAS": {2, 2, 'S', ""}, "SALL": {1, 1, 'S', ""}, "SCARD": {1, 1, 'S', ""}, "SUNION": {1, 31, 'S', ""}, "SINTER": {1, 31, 'S', ""}, "SDIFF": {1, 31, 'S', ""},
	"PSET": {2, 2, 0, " p"}, "PGET": {1, 1, 'P', ""}, "PADD": {2, 2, 'P', " p"}, "PMUL": {2, 2, 'P', " p"}, "PTURN": {2, 2, 'P', " n"}, "PNORM": {1, 1, 'P', ""},
	"EXPIRE": {2, 2, 0, " n"}, "TTL": {1, 1, 0, ""}, "PERSIST": {1, 1, 0, ""}, "DUMP": {1, 1, 0, ""}, "RESTORE": {3, 3, 0, " e"},
	"KEYSLOT": {1, 1, 0, ""}, "COUNT": {1, 1, 0, "s"}, "KEYS": {2, 2, 0, "sn"},
}

// aheadOf is the Fault of what is looked at ahead of the kind, from the left to the right.
func aheadOf(what string, args []string) string {
	for i, w := range what {
		n, is := isNumber(args[i])
		switch {
		case w == 'n' && !is, w == 'e' && (!is || n < 0 || n > 1<<40):
			return "ERR not a number"
		case w == 's' && (!is || n < 0 || n > 16383):
			return "ERR no such slot"
		case w == '2' && (len(args)-i)%2 == 1:
			return "ERR syntax"
		case w == 'p':
			if _, _, is := isPoint(args[i]); !is {
				return "ERR not a point"
			}
		}
	}
	return ""
}

func (p *plain) command(args []string) api.Reply {
	name := ""
	if len(args) > 0 {
		name = args[0]
		if strings.ToUpper(name) != name && regexp.MustCompile(`^[A-Za-z]*$`).MatchString(name) {
			name = strings.ToUpper(name)
		}
	}
	rule, is := rules[name]
	if !is {
		return fault("ERR unknown command")
	}
	args = args[1:]
	if len(args) < rule.least || len(args) > rule.most || name == "MSET" && len(args)%2 == 1 {
		return fault("ERR wrong number of arguments")
	}
	if f := aheadOf(rule.ahead, args); f != "" {
		return fault(f)
	}
	if rule.sign != 0 {
		keys := args[:1]
		if name == "SUNION" || name == "SINTER" || name == "SDIFF" {
			keys = args
		}
		for _, k := range keys {
			if x, there := p.keys[k]; there && x.kind != rule.sign {
				return fault("WRONGTYPE")
			}
		}
	}
	switch rule.sign {
	case 'T':
		return p.texts(name, args)
	case 'H':
		return p.hashes(name, args)
	case 'L':
		return p.lists(name, args)
	case 'S':
		return p.sets(name, args)
	case 'P':
		return p.points(name, args)
	}
	return p.others(name, args)
}

// become makes the key have x, or go, if that is empty; r is the answer.
func (p *plain) become(key string, x thing, r api.Reply) api.Reply {
	if (x.kind == 'L' || x.kind == 'S') && len(x.items) == 0 || x.kind == 'H' && len(x.hash) == 0 {
		delete(p.keys, key)
		return r
	}
	if f := p.put(key, x); f != "" {
		return fault(f)
	}
	return r
}

func (p *plain) get(key string, kind byte) (thing, bool) {
	x, there := p.keys[key]
	if !there {
		return thing{kind: kind, hash: map[string]string{}}, false
	}
	return x.copied(), true
}

func (p *plain) texts(name string, args []string) api.Reply {
	x, there := p.get(args[0], 'T')
	switch name {
	case "GET":
		if !there {
			return nothing()
		}
		return bulk(x.text)
	case "STRLEN":
		return whole(len(x.text))
	case "APPEND":
		x.text += args[1]
		return p.become(args[0], x, whole(len(x.text)))
	}
	n, _ := isNumber(args[1])
	m, is := 0, true
	if there {
		m, is = isNumber(x.text)
	}
	if !is {
		return fault("ERR not a number")
	}
	if n > 0 && m > 1<<63-1-n || n < 0 && m < -1<<63-n {
		return fault("ERR overflow")
	}
	x.text = strconv.Itoa(m + n)
	return p.become(args[0], x, whole(m+n))
}

func (p *plain) hashes(name string, args []string) api.Reply {
	x, _ := p.get(args[0], 'H')
	count := 0
	switch name {
	case "HGET":
		if v, is := x.hash[args[1]]; is {
			return bulk(v)
		}
		return nothing()
	case "HLEN":
		return whole(len(x.hash))
	case "HALL":
		var l []string
		for _, f := range x.fields() {
			l = append(l, f, x.hash[f])
		}
		return many(l)
	case "HSET":
		for i := 1; i < len(args); i += 2 {
			if _, is := x.hash[args[i]]; !is {
				count++
			}
			x.hash[args[i]] = args[i+1]
		}
	case "HDEL":
		for _, f := range args[1:] {
			if _, is := x.hash[f]; is {
				count++
			}
			delete(x.hash, f)
		}
	}
	return p.become(args[0], x, whole(count))
}

// stretch are the items from the place from to the place to, both told as texts.
func stretch(items []string, first, second string) []string {
	from, _ := isNumber(first)
	to, _ := isNumber(second)
	if from < 0 {
		from += len(items)
	}
	if to < 0 {
		to += len(items)
	}
	var l []string
	for i, s := range items {
		if i >= from && i <= to {
			l = append(l, s)
		}
	}
	return l
}

func (p *plain) lists(name string, args []string) api.Reply {
	x, _ := p.get(args[0], 'L')
	last := len(x.items) - 1
	switch name {
	case "LPUSH":
		for _, s := range args[1:] {
			x.items = append([]string{s}, x.items...)
		}
		return p.become(args[0], x, whole(len(x.items)))
	case "RPUSH":
		x.items = append(x.items, args[1:]...)
		return p.become(args[0], x, whole(len(x.items)))
	case "LLEN":
		return whole(len(x.items))
	case "LRANGE":
		return many(stretch(x.items, args[1], args[2]))
	case "LTRIM":
		x.items = stretch(x.items, args[1], args[2])
		return p.become(args[0], x, okay())
	case "LINDEX":
		if l := stretch(x.items, args[1], args[1]); len(l) == 1 {
			return bulk(l[0])
		}
		return nothing()
	}
	if last < 0 {
		return nothing()
	}
	if name == "LPOP" {
		s := x.items[0]
		x.items = x.items[1:]
		return p.become(args[0], x, bulk(s))
	}
	s := x.items[last]
	x.items = x.items[:last]
	return p.become(args[0], x, bulk(s))
}

func (p *plain) sets(name string, args []string) api.Reply {
	x, _ := p.get(args[0], 'S')
	count := 0
	switch name {
	case "SHAS":
		if slices.Contains(x.items, args[1]) {
			count = 1
		}
		return whole(count)
	case "SCARD":
		return whole(len(x.items))
	case "SALL":
		return many(x.items)
	case "SADD":
		for _, s := range args[1:] {
			if !slices.Contains(x.items, s) {
				x.items = append(x.items, s)
				count++
			}
		}
		slices.Sort(x.items)
		return p.become(args[0], x, whole(count))
	case "SREM":
		for _, s := range args[1:] {
			if i := slices.Index(x.items, s); i >= 0 {
				x.items = slices.Delete(x.items, i, i+1)
				count++
			}
		}
		return p.become(args[0], x, whole(count))
	}
	// In how many of the keys each text is, and whether in the first.
	in := map[string]int{}
	for _, k := range args {
		for _, s := range p.keys[k].items {
			in[s]++
		}
	}
	var l []string
	for s, n := range in {
		first := slices.Contains(x.items, s)
		if name == "SUNION" || name == "SINTER" && n == len(args) || name == "SDIFF" && first && n == 1 {
			l = append(l, s)
		}
	}
	slices.Sort(l)
	return many(l)
}

func (p *plain) points(name string, args []string) api.Reply {
	x, there := p.get(args[0], 'P')
	switch name {
	case "PGET":
		if !there {
			return nothing()
		}
		return bulk(pointText(x.re, x.im))
	case "PNORM":
		return whole(x.re*x.re + x.im*x.im)
	case "PADD":
		re, im, _ := isPoint(args[1])
		x.re, x.im = x.re+re, x.im+im
	case "PMUL":
		re, im, _ := isPoint(args[1])
		x.re, x.im = x.re*re-x.im*im, x.re*im+x.im*re
	case "PTURN":
		n, _ := isNumber(args[1])
		for range (n%4 + 4) % 4 {
			x.re, x.im = -x.im, x.re
		}
	}
	if !inBounds(x.re, x.im) {
		return fault("ERR overflow")
	}
	return p.become(args[0], x, bulk(pointText(x.re, x.im)))
}

func (p *plain) others(name string, args []string) api.Reply {
	switch name {
	case "PING":
		return api.Reply{Kind: api.Simple, Text: "PONG"}
	case "ECHO":
		return bulk(args[0])
	case "KEYSLOT":
		return whole(plainSlot(args[0]))
	case "COUNT":
		return whole(len(p.inSlot(args[0])))
	case "KEYS":
		n, _ := isNumber(args[1])
		l := p.inSlot(args[0])
		return many(l[:max(0, min(n, len(l)))])
	case "SET", "MSET":
		for i := 0; i < len(args); i += 2 {
			if f := p.put(args[i], thing{kind: 'T', text: args[i+1]}); f != "" {
				return fault(f)
			}
		}
		return okay()
	case "PSET":
		re, im, _ := isPoint(args[1])
		return p.become(args[0], thing{kind: 'P', re: re, im: im}, okay())
	case "RESTORE":
		return p.restore(args)
	case "EXPIRE", "TTL", "PERSIST":
		return p.times(name, args)
	case "TYPE", "DUMP":
		x, there := p.keys[args[0]]
		if name == "TYPE" {
			return api.Reply{Kind: api.Simple, Text: map[byte]string{0: "none", 'T': "string", 'H': "hash", 'L': "list", 'S': "set", 'P': "point"}[x.kind]}
		}
		if !there {
			return nothing()
		}
		s, _ := value.Dump(x.value())
		return bulk(s)
	}
	r, count := api.Reply{Kind: api.Many}, 0
	for _, k := range args {
		x, there := p.keys[k]
		if there {
			count++
		}
		if x.kind == 'T' {
			r.List = append(r.List, bulk(x.text))
		} else {
			r.List = append(r.List, nothing())
		}
		if name == "DEL" {
			delete(p.keys, k)
		}
	}
	if name == "MGET" {
		return r
	}
	return whole(count)
}

func (p *plain) restore(args []string) api.Reply {
	if _, there := p.keys[args[0]]; there {
		return fault("BUSYKEY")
	}
	v, e := value.Load(args[2])
	if e != 0 {
		return fault("ERR bad payload")
	}
	ends, _ := isNumber(args[1])
	if ends > 0 && ends <= p.clock {
		return fault("ERR past")
	}
	x := thingOf(v)
	x.ends = ends
	return p.become(args[0], x, okay())
}

func (p *plain) times(name string, args []string) api.Reply {
	x, there := p.get(args[0], 0)
	if !there {
		return whole(map[string]int{"EXPIRE": 0, "TTL": -2, "PERSIST": 0}[name])
	}
	switch name {
	case "TTL":
		if x.ends == 0 {
			return whole(-1)
		}
		return whole(x.ends - p.clock)
	case "PERSIST":
		if x.ends == 0 {
			return whole(0)
		}
		x.ends = 0
		return p.become(args[0], x, whole(1))
	}
	n, _ := isNumber(args[1])
	x.ends = 1 << 40
	if n < 1<<40 {
		x.ends = min(1<<40, p.clock+n)
	}
	if n < 1 || x.ends <= p.clock {
		delete(p.keys, args[0])
		return whole(1)
	}
	return p.become(args[0], x, whole(1))
}

// plainSlot divides the key's tag bit by bit.
func plainSlot(key string) int {
	if m := regexp.MustCompile(`(?s)^[^{]*\{([^}]+)\}`).FindStringSubmatch(key); m != nil {
		key = m[1]
	}
	c := 0
	for i := range len(key) {
		for bit := 7; bit >= 0; bit-- {
			c = c<<1 ^ int(key[i])>>bit&1<<16
			if c&0x10000 != 0 {
				c ^= 0x11021
			}
		}
	}
	return c % 16384
}

func (p *plain) inSlot(s string) []string {
	n, _ := isNumber(s)
	var l []string
	for k := range p.keys {
		if plainSlot(k) == n {
			l = append(l, k)
		}
	}
	slices.Sort(l)
	return l
}
