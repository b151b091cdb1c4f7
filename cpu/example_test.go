package cpu_test

import (
	"fmt"

	"hourglass/api"
	"hourglass/cpu"
)

// Example: the snippet of README.md.
func Example() {
	ask, _ := cpu.Encode(api.Instr{Op: api.In, A: 1, N: api.Clock})
	tell, _ := cpu.Encode(api.Instr{Op: api.Out, A: 1, N: api.Console})
	m, _ := cpu.New([]int{ask, tell})
	for m.End == api.Going {
		m, _, _ = cpu.Step(m, false, nil, 5)
	}
	fmt.Println(m.Out, m.Count, m.End == api.Halted)
	// Output: [5] 3 true
}
