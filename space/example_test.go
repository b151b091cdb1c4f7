package space_test

import (
	"fmt"

	"hourglass/space"
)

// Example: the snippet of README.md.
func Example() {
	first := [][2]int{{0, 5}, {17, 6}}
	writes := [][3]int{{0, 7, 1}, {40, 8, 0}}
	a, b, known, _ := space.Play(9, first, writes)
	fmt.Println(a[0], a[17], a[40])
	fmt.Println(b[0], b[17], b[40])
	fmt.Println(known)
	// Output:
	// 5 6 8
	// 7 6 0
	// 4
}
