package frames_test

import (
	"fmt"

	"hourglass/frames"
)

// Example: the snippet of README.md.
func Example() {
	f, _ := frames.New(2)
	f, page, _ := frames.Take(f)
	f, _, _ = frames.Write(f, page, 3, 5)
	f, _ = frames.Share(f, page)
	f, other, _ := frames.Write(f, page, 3, 8)
	a, _ := frames.Read(f, page, 3)
	b, _ := frames.Read(f, other, 3)
	fmt.Println(page, other, a, b)
	// Output: 0 1 5 8
}
