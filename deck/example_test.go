package deck_test

import (
	"fmt"

	"hourglass/api"
	"hourglass/cpu"
	"hourglass/deck"
	"hourglass/run"
)

// Example: the snippet of README.md.
func Example() {
	ask, _ := cpu.Encode(api.Instr{Op: api.In, A: 1, N: api.Clock})
	tell, _ := cpu.Encode(api.Instr{Op: api.Out, A: 1, N: api.Console})
	back, _ := cpu.Encode(api.Instr{Op: api.Jmp, N: -2})
	w := api.World{Values: []int{5, 6, 7, 8}}
	tape, _, _ := run.Record([]int{ask, tell, back}, w, 12)
	s := api.Setup{Frames: 64, Every: 4, Keep: 2}
	l, _ := deck.Seek(s, tape, []int{12, 2, 9})
	fmt.Println(l[0].Out, l[1].Out, l[2].Out)
	// Output: [5 6 7 8] [5] [5 6 7]
}
