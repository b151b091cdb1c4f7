package run_test

import (
	"fmt"

	"hourglass/api"
	"hourglass/cpu"
	"hourglass/run"
)

// Example: the snippet of README.md.
func Example() {
	ask, _ := cpu.Encode(api.Instr{Op: api.In, A: 1, N: api.Clock})
	tell, _ := cpu.Encode(api.Instr{Op: api.Out, A: 1, N: api.Console})
	w := api.World{Values: []int{5, 5}}
	tape, end, _ := run.Record([]int{ask, tell, ask, tell}, w, 100)
	events, _ := run.Check(tape)
	m, _ := run.Replay(tape, 2)
	n, _ := run.Replay(tape, tape.Count)
	fmt.Println(tape.Count, end.Out, events, m.Out, n.Out)
	// Output: 5 [5 5] [{0 3 [5]} {2 3 [5]}] [5] [5 5]
}
