package resp

import (
	"bytes"
	"strings"

	"marshalyard/api"
)

const lineEnd = "\r\n"

// notYet is no error that is told: the bytes that are there do not say how it goes on.
const notYet api.Errno = -1

// cut gives both parts a capacity of their own, so that neither can grow into what is behind it.
func cut(b []byte, n int) (front, rest []byte) {
	return b[:n:n], b[n:len(b):len(b)]
}

// cutLine is a line with its 10.
func cutLine(b []byte) (line, rest []byte, e api.Errno) {
	n := bytes.IndexByte(b[:min(len(b), api.MaxLine)], '\n')
	if n < 0 && len(b) >= api.MaxLine {
		return nil, b, api.ErrRespLine
	}
	if n < 0 {
		return nil, b, notYet
	}
	line, rest = cut(b, n+1)
	return line, rest, api.OK
}

// cutSize looks at the first byte ahead of the line: it says that there is no $ before later bytes can say that the line is too long.
func cutSize(b []byte) (size int, rest []byte, e api.Errno) {
	if len(b) > 0 && b[0] != '$' {
		return 0, b, api.ErrRespDollar
	}
	line, rest, e := cutLine(b)
	if e != api.OK {
		return 0, b, e
	}
	size, e = number(line, api.MaxBulk, api.ErrRespBulk)
	return size, rest, e
}

// cutBytes is an argument's bytes; the two behind them are cut off too.
func cutBytes(b []byte, size int) (arg, rest []byte, e api.Errno) {
	if len(b) < size {
		return nil, b, notYet
	}
	arg, rest = cut(b, size)
	end, rest := cut(rest, min(len(rest), len(lineEnd)))
	if !strings.HasPrefix(lineEnd, string(end)) {
		return nil, b, api.ErrRespEnd
	}
	if len(end) < len(lineEnd) {
		return nil, b, notYet
	}
	return arg, rest, api.OK
}

// number reads a line of one sign and a number; wrong is the error if it is none, or above most.
func number(line []byte, most int, wrong api.Errno) (int, api.Errno) {
	digits, ended := bytes.CutSuffix(line[1:], []byte(lineEnd))
	if !ended || len(digits) == 0 || len(digits) > 1 && digits[0] == '0' {
		return 0, wrong
	}
	n := 0
	for _, d := range digits {
		if d < '0' || d > '9' {
			return 0, wrong
		}
		// Told at once, so that a long row of digits does not wrap round.
		if n = n*10 + int(d-'0'); n > most {
			return 0, wrong
		}
	}
	return n, api.OK
}

// words are the parts of a line that does not begin with *.
func words(line []byte) ([][]byte, api.Errno) {
	line = bytes.TrimSuffix(line, []byte("\n"))
	line = bytes.TrimSuffix(line, []byte("\r"))
	parts := bytes.FieldsFunc(line, isBlank)
	if len(parts) > api.MaxArgs {
		return nil, api.ErrRespCount
	}
	return parts, api.OK
}

// isBlank knows two blanks alone: the library's Fields would part at others too.
func isBlank(r rune) bool { return r == ' ' || r == '\t' }

// texts copies the arguments out of the stream only once all are there.
func texts(args [][]byte) []string {
	l := make([]string, len(args))
	for i, arg := range args {
		l[i] = string(arg)
	}
	return l
}
