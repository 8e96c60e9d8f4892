package reply

import (
	"strconv"
	"strings"

	"marshalyard/api"
)

const (
	lineEnd    = "\r\n"
	nilSize    = "-1"
	mostText   = api.MaxLine - len("+") - len(lineEnd) // bytes of a line behind its sign
	mostBytes  = 65536                                 // of a Bulk
	mostList   = 1024
	mostNested = 4 // Many within each other
)

// appendReply writes r behind text, if r has a writing where room Many may still stand within each other.
func appendReply(text []byte, r api.Reply, room int) ([]byte, bool) {
	if !isRight(r, room) {
		return nil, false
	}
	switch r.Kind {
	case api.Simple:
		return appendLine(text, '+', r.Text), true
	case api.Fault:
		return appendLine(text, '-', r.Text), true
	case api.Whole:
		return appendLine(text, ':', strconv.Itoa(r.Int)), true
	case api.Nil:
		return appendLine(text, '$', nilSize), true
	case api.Bulk:
		text = appendLine(text, '$', strconv.Itoa(len(r.Text)))
		text = append(text, r.Text...)
		return append(text, lineEnd...), true
	}
	return appendList(text, r.List, room-1)
}

func appendList(text []byte, l []api.Reply, room int) ([]byte, bool) {
	text = appendLine(text, '*', strconv.Itoa(len(l)))
	for _, r := range l {
		var ok bool
		if text, ok = appendReply(text, r, room); !ok {
			return nil, false
		}
	}
	return text, true
}

func appendLine(text []byte, sign byte, line string) []byte {
	text = append(text, sign)
	text = append(text, line...)
	return append(text, lineEnd...)
}

// isRight looks at all of r but into its List.
func isRight(r api.Reply, room int) bool {
	switch r.Kind {
	case api.Simple, api.Fault:
		if !isLine(r.Text) {
			return false
		}
		fallthrough
	case api.Bulk:
		return len(r.Text) <= mostBytes && r.Int == 0 && len(r.List) == 0
	case api.Nil:
		if r.Int != 0 {
			return false
		}
		fallthrough
	case api.Whole:
		return r.Text == "" && len(r.List) == 0
	case api.Many:
		return len(r.List) <= mostList && room > 0 && r.Int == 0 && r.Text == ""
	}
	return false
}

func isLine(text string) bool {
	return len(text) <= mostText && !strings.ContainsAny(text, lineEnd)
}
