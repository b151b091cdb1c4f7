package stub

import (
	"strconv"
	"strings"

	"hourglass/api"
)

const (
	mostNumber = 100000 // in a command
	mostWords  = 40     // that are asked at once
)

// number of a command. Only the digits that would tell it are taken: no needless 0, no sign.
func number(digits string) (int, bool) {
	n, err := strconv.Atoi(digits)
	if err != nil || n < 0 || n > mostNumber || strconv.Itoa(n) != digits {
		return 0, false
	}
	return n, true
}

// wordOf memory that a command names.
func wordOf(digits string) (int, bool) {
	n, ok := number(digits)
	return n, ok && n < api.Words
}

// spanOf memory that a command names: its first word, and how many there are.
func spanOf(text string) (int, int, bool) {
	first, count, _ := strings.Cut(text, ",")
	at, isNumber := number(first)
	n, isCount := number(count)
	return at, n, isNumber && isCount && n >= 1 && n <= mostWords && at+n <= api.Words
}

// told numbers, one after the other.
func told(l []int) string {
	texts := make([]string, len(l))
	for i, n := range l {
		texts[i] = strconv.Itoa(n)
	}
	return strings.Join(texts, ",")
}
