package evlog_test

import (
	"fmt"

	"hourglass/api"
	"hourglass/evlog"
)

// Example: the snippet of README.md.
func Example() {
	b, _ := evlog.Encode([]api.Event{
		{At: 2, Kind: api.Irq},
		{At: 2, Kind: api.Value, Data: []int{-3}},
	})
	fmt.Println(b)
	l, _ := evlog.Decode(b)
	fmt.Println(l)
	b[1]++
	_, e := evlog.Decode(b)
	fmt.Println(e == api.ErrSum)
	// Output:
	// [2 9 3 5 0 50 0 20]
	// [{2 1 []} {2 3 [-3]}]
	// true
}
