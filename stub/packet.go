package stub

import (
	"strings"

	"hourglass/api"
)

// What stands around the text of a packet.
const (
	head = "$"
	tail = "#"
)

// base16: the digits that a sum is told by.
const base16 = "0123456789abcdef"

// Frame a text as a packet.
func Frame(s string) (string, api.Errno) {
	if len(s) > api.MaxBytes {
		return "", api.ErrSize
	}
	if hasMarks(s) {
		return "", api.ErrForm
	}
	return head + s + tail + sumOf(s), api.OK
}

// Open a packet: its text. What stands in two bytes where its digits should be are wrong digits, even if they are none.
func Open(p string) (string, api.Errno) {
	if len(p) > api.MaxPacket {
		return "", api.ErrSize
	}
	behind, begins := strings.CutPrefix(p, head)
	text, sum, ends := strings.Cut(behind, tail)
	if !begins || !ends || hasMarks(text) || len(sum) != 2 {
		return "", api.ErrForm
	}
	if sum != sumOf(text) {
		return "", api.ErrSum
	}
	return text, api.OK
}

func hasMarks(s string) bool { return strings.ContainsAny(s, head+tail) }

// sumOf a text: the last eight bits, as two digits.
func sumOf(s string) string {
	var sum byte
	for _, b := range []byte(s) {
		sum += b
	}
	return string([]byte{base16[sum/16], base16[sum%16]})
}
