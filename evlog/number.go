package evlog

// How numbers stand in bytes.
const (
	more      = 128 // what a byte is worth, and what it has more, if another one follows
	mostBytes = 7   // of a number
)

// What a sum is made of.
const (
	sumRest  = 65521
	sumBytes = 4
)

// appendNumber that is not below 0.
func appendNumber(b []byte, n int) []byte {
	for n >= more {
		b = append(b, byte(n%more+more))
		n /= more
	}
	return append(b, byte(n))
}

// appendAnyKind of number, also one below 0.
func appendAnyKind(b []byte, n int) []byte {
	if n < 0 {
		return appendNumber(b, -2*n-1)
	}
	return appendNumber(b, 2*n)
}

// anyKind: the number of any kind that stands there as n.
func anyKind(n int) int {
	if n%2 == 1 {
		return -(n + 1) / 2
	}
	return n / 2
}

// sum of bytes, itself as bytes.
func sum(l []byte) []byte {
	first, second := 1, 0
	for _, b := range l {
		first = (first + int(b)) % sumRest
		second = (second + first) % sumRest
	}
	return []byte{byte(second / 256), byte(second % 256), byte(first / 256), byte(first % 256)}
}
