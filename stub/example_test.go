package stub_test

import (
	"fmt"

	"hourglass/api"
	"hourglass/cpu"
	"hourglass/run"
	"hourglass/stub"
)

// Example: the snippet of README.md.
func Example() {
	ask, _ := cpu.Encode(api.Instr{Op: api.In, A: 1, N: api.Clock})
	keep, _ := cpu.Encode(api.Instr{Op: api.St, A: 1, B: 7, N: 100})
	back, _ := cpu.Encode(api.Instr{Op: api.Jmp, N: -2})
	w := api.World{Values: []int{5, 6, 7, 8}}
	tape, _, _ := run.Record([]int{ask, keep, back}, w, 12)
	u := api.Setup{Frames: 64, Every: 4, Keep: 2}
	s := api.Session{At: 7}
	for _, command := range []string{"Z2,100", "bc", "m100,1", "g", "c", "m100,1"} {
		p, _ := stub.Frame(command)
		s, p, _ = stub.Answer(u, tape, s, p)
		text, _ := stub.Open(p[1:])
		fmt.Println(p, text)
	}
	fmt.Println(s)
	// Output:
	// +$OK#9a OK
	// +$T4:0#f2 T4:0
	// +$5#35 5
	// +$0,6,0,0,0,0,0,0,1#17 0,6,0,0,0,0,0,0,1
	// +$T5:0#f3 T5:0
	// +$6#36 6
	// {5 [] [100]}
}
