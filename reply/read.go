package reply

import (
	"math"
	"strconv"
	"strings"

	"marshalyard/api"
)

// read is the reply at s's front, where room Many may still stand within each other, and what of s is behind it.
func read(s string, room int) (r api.Reply, rest string, e api.Errno) {
	line, rest, e := cutLine(s, room)
	if e != api.OK {
		return r, rest, e
	}
	switch text := line[1:]; line[0] {
	case '+':
		r, e = readText(api.Simple, text)
	case '-':
		r, e = readText(api.Fault, text)
	case ':':
		r.Kind = api.Whole
		r.Int, e = readNumber(text, math.MinInt, math.MaxInt)
	case '$':
		r, rest, e = readBulk(text, rest)
	case '*':
		r.Kind = api.Many
		r.List, rest, e = readList(text, rest, room-1)
	}
	return r, rest, e
}

// cutLine is a line without its end. Its first byte is looked at ahead of all others: it may be wrong where nothing else of the line is there.
func cutLine(s string, room int) (line, rest string, e api.Errno) {
	if s == "" {
		return "", s, api.ErrReplyShort
	}
	if !mayBegin(s[0], room) {
		return "", s, api.ErrReplyForm
	}
	end := strings.IndexByte(s[:min(len(s), api.MaxLine)], '\n')
	if end < 0 && len(s) >= api.MaxLine {
		return "", s, api.ErrReplyForm
	}
	if end < 0 {
		return "", s, api.ErrReplyShort
	}
	line, ended := strings.CutSuffix(s[:end+1], lineEnd)
	if !ended {
		return "", s, api.ErrReplyForm
	}
	return line, s[end+1:], api.OK
}

// mayBegin tells whether a writing begins with that byte; a Many does not where there is no room for one more.
func mayBegin(sign byte, room int) bool {
	switch sign {
	case '*':
		if room == 0 {
			return false
		}
		fallthrough
	case '+', '-', ':', '$':
		return true
	}
	return false
}

func readText(kind int, text string) (api.Reply, api.Errno) {
	if !isLine(text) {
		return api.Reply{}, api.ErrReplyForm
	}
	return api.Reply{Kind: kind, Text: text}, api.OK
}

// readNumber reads only what would be written: strconv reads +1, 01 and -0 too.
func readNumber(text string, least, most int) (int, api.Errno) {
	n, err := strconv.Atoi(text)
	if err != nil || strconv.Itoa(n) != text || n < least || n > most {
		return 0, api.ErrReplyForm
	}
	return n, api.OK
}

// readBulk is a Nil or a Bulk: their lines begin alike.
func readBulk(text, s string) (r api.Reply, rest string, e api.Errno) {
	if text == nilSize {
		return api.Reply{Kind: api.Nil}, s, api.OK
	}
	size, e := readNumber(text, 0, mostBytes)
	if e != api.OK {
		return r, s, e
	}
	if len(s) < size {
		return r, s, api.ErrReplyShort
	}
	end := s[size:min(len(s), size+len(lineEnd))]
	if !strings.HasPrefix(lineEnd, end) {
		return r, s, api.ErrReplyForm
	}
	if end != lineEnd {
		return r, s, api.ErrReplyShort
	}
	return Text(s[:size]), s[size+len(lineEnd):], api.OK
}

func readList(text, s string, room int) (l []api.Reply, rest string, e api.Errno) {
	many, e := readNumber(text, 0, mostList)
	if e != api.OK {
		return nil, s, e
	}
	for range many {
		var r api.Reply
		if r, s, e = read(s, room); e != api.OK {
			return nil, s, e
		}
		l = append(l, r)
	}
	return l, s, api.OK
}
