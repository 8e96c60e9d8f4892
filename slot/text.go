package slot

import (
	"strconv"
	"strings"

	"marshalyard/api"
)

// readRange takes a range only as Print writes it; of one that it refuses, the range means nothing.
func readRange(text string) (api.Range, bool) {
	first, second, two := strings.Cut(text, "-")
	from, ok := readSlot(first)
	if !ok || !two {
		return api.Range{From: from, To: from}, ok
	}
	to, ok := readSlot(second)
	return api.Range{From: from, To: to}, ok && from < to
}

// readSlot writes the number again, since a sign or a 0 ahead would be read as well.
func readSlot(text string) (int, bool) {
	n, err := strconv.Atoi(text)
	return n, err == nil && isSlot(n) && strconv.Itoa(n) == text
}
