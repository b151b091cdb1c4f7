package cpu_test

import (
	"math"
	"testing"

	"hourglass/api"
	"hourglass/cpu"
)

// round: so many words there are.
const round = 2*api.MaxWord + 1

// noWords: numbers that are no word, the nearest and the farthest ones.
var noWords = []int{api.MaxWord + 1, -api.MaxWord - 1, math.MaxInt, math.MinInt}

// die: numbers that look drawn, the same each time.
type die uint64

func (d *die) below(n int) int {
	*d = *d*6364136223846793005 + 1442695040888963407
	return int(uint64(*d>>33) % uint64(n))
}

func TestFoldKeepsWords(t *testing.T) { // P2.1
	for _, n := range []int{0, 1, -1, 5, -5, 1 << 39, -1 << 39, api.MaxWord - 1, 1 - api.MaxWord, api.MaxWord, -api.MaxWord} {
		if got := cpu.Fold(n); got != n {
			t.Errorf("Fold(%d): %d; want the same", n, got)
		}
	}
}

func TestFoldGoesRound(t *testing.T) { // P2.1
	for _, c := range []struct{ n, want int }{
		{api.MaxWord + 1, -api.MaxWord},
		{api.MaxWord + 2, 1 - api.MaxWord},
		{-api.MaxWord - 1, api.MaxWord},
		{-api.MaxWord - 2, api.MaxWord - 1},
		{2 * api.MaxWord, -1},
		{-2 * api.MaxWord, 1},
		{round, 0},
		{-round, 0},
		{round + 1, 1},
		{-round - 1, -1},
		{3 * api.MaxWord, api.MaxWord - 1},
		{-3 * api.MaxWord, 1 - api.MaxWord},
		{3*api.MaxWord + 1, api.MaxWord},
		{-3*api.MaxWord - 1, -api.MaxWord},
		{3*api.MaxWord + 2, -api.MaxWord},
		{-3*api.MaxWord - 2, api.MaxWord},
		{4 * api.MaxWord, -2},
		{-4 * api.MaxWord, 2},
	} {
		if got := cpu.Fold(c.n); got != c.want {
			t.Errorf("Fold(%d): %d; want %d", c.n, got, c.want)
		}
	}
}

// TestFoldBeside: a word, and a multiple of all words beside the number, also where no word is promised.
func TestFoldBeside(t *testing.T) { // P2.1
	d := die(21)
	l := []int{math.MinInt, math.MaxInt, math.MinInt + 1, 5*api.MaxWord + 3}
	for range 1000 {
		l = append(l, (d.below(1<<31)<<12+d.below(1<<12))-4*api.MaxWord)
	}
	for _, n := range l {
		got := cpu.Fold(n)
		if got < -api.MaxWord || got > api.MaxWord || (n%round-got)%round != 0 {
			t.Errorf("Fold(%d): %d", n, got)
		}
	}
}

// coded: instructions and their words.
var coded = []struct {
	i api.Instr
	w int
}{
	{api.Instr{}, 0},
	{api.Instr{Op: api.Nop}, 15},
	{api.Instr{Op: api.Li, A: 3, N: -2}, -1999},
	{api.Instr{Op: api.Li, A: 1}, 17},
	{api.Instr{Op: api.Addi, B: 1}, 132},
	{api.Instr{Op: api.Addi, N: 1}, 1028},
	{api.Instr{Op: api.Addi, N: -1}, -1020},
	{api.Instr{Op: api.Add, A: 1, B: 2, N: 7}, 2 + 16 + 256 + 7168},
	{api.Instr{Op: api.Sub, A: 7, B: 7, N: 7}, 3 + 112 + 896 + 7168},
	{api.Instr{Op: api.Ei, N: 1}, 1036},
	{api.Instr{Op: api.Ei}, 12},
	{api.Instr{Op: api.Halt, A: 7, B: 7, N: 99}, 1008 + 99*1024},
	{api.Instr{Op: api.Nop, A: 7, B: 7, N: api.MaxImm - 1}, 1<<30 - 1},
	{api.Instr{Op: api.Halt, N: -api.MaxImm}, -1 << 30},
	{api.Instr{Op: api.Nop, A: 7, B: 7, N: -api.MaxImm}, -1<<30 + 1023},
	{api.Instr{Op: api.Nop, A: 7, B: 7, N: -1}, -1},
	{api.Instr{Op: api.Halt, N: -1}, -1024},
	{api.Instr{Op: api.In, A: 2, N: 900}, 10 + 32 + 900*1024},
}

func TestCode(t *testing.T) { // P2.3
	for _, c := range coded {
		if w, e := cpu.Encode(c.i); w != c.w || e != api.OK {
			t.Errorf("Encode(%v): %d, %v; want %d, OK", c.i, w, e, c.w)
		}
		if i, e := cpu.Decode(c.w); i != c.i || e != api.OK {
			t.Errorf("Decode(%d): %v, %v; want %v, OK", c.w, i, e, c.i)
		}
	}
}

// TestCodeBack: what may be is its word's instruction again, and no other one's.
func TestCodeBack(t *testing.T) { // P2.2, P2.3
	words := map[int]api.Instr{}
	for op := api.Halt; op <= api.Nop; op++ {
		for a := range api.Regs {
			for b := range api.Regs {
				for _, n := range fits(op) {
					i := api.Instr{Op: op, A: a, B: b, N: n}
					if e := cpu.Check(i); e != api.OK {
						t.Fatalf("Check(%v): %v; want OK", i, e)
					}
					w, e := cpu.Encode(i)
					back, e2 := cpu.Decode(w)
					if e != api.OK || e2 != api.OK || back != i {
						t.Fatalf("%v: %d, %v; then %v, %v", i, w, e, back, e2)
					}
					if other, found := words[w]; found {
						t.Fatalf("%v and %v have one word: %d", i, other, w)
					}
					words[w] = i
				}
			}
		}
	}
}

// fits: some N that an operator may have.
func fits(op int) []int {
	switch op {
	case api.Add, api.Sub:
		return []int{0, 1, 2, 3, 4, 5, 6, 7}
	case api.Ei:
		return []int{0, 1}
	}
	return []int{-api.MaxImm, 1 - api.MaxImm, -1, 0, 1, 8, 4711, api.MaxImm - 1}
}

// refused: instructions that may not be, and why; where several reasons apply the first one counts.
var refused = []struct {
	i    api.Instr
	want api.Errno
}{
	{api.Instr{Op: 16}, api.ErrKind},
	{api.Instr{Op: -1}, api.ErrKind},
	{api.Instr{Op: math.MaxInt}, api.ErrKind},
	{api.Instr{Op: math.MinInt}, api.ErrKind},
	{api.Instr{Op: 16, A: 8, B: -1, N: api.MaxImm}, api.ErrKind},
	{api.Instr{A: 8}, api.ErrRange},
	{api.Instr{A: -1}, api.ErrRange},
	{api.Instr{A: math.MaxInt}, api.ErrRange},
	{api.Instr{A: math.MinInt}, api.ErrRange},
	{api.Instr{Op: api.Nop, B: 8}, api.ErrRange},
	{api.Instr{Op: api.Nop, B: -1}, api.ErrRange},
	{api.Instr{Op: api.Nop, B: math.MaxInt}, api.ErrRange},
	{api.Instr{Op: api.Nop, B: math.MinInt}, api.ErrRange},
	{api.Instr{Op: api.Li, N: api.MaxImm}, api.ErrRange},
	{api.Instr{Op: api.Li, N: -api.MaxImm - 1}, api.ErrRange},
	{api.Instr{Op: api.Li, N: math.MaxInt}, api.ErrRange},
	{api.Instr{Op: api.Li, N: math.MinInt}, api.ErrRange},
	{api.Instr{Op: api.Add, N: api.MaxImm}, api.ErrRange},
	{api.Instr{Op: api.Add, A: 8, N: 8}, api.ErrRange},
	{api.Instr{Op: api.Sub, B: 8, N: 8}, api.ErrRange},
	{api.Instr{Op: api.Ei, A: -1, N: 2}, api.ErrRange},
	{api.Instr{Op: api.Add, N: 8}, api.ErrForm},
	{api.Instr{Op: api.Add, N: -1}, api.ErrForm},
	{api.Instr{Op: api.Sub, N: 8}, api.ErrForm},
	{api.Instr{Op: api.Sub, N: -1}, api.ErrForm},
	{api.Instr{Op: api.Sub, N: api.MaxImm - 1}, api.ErrForm},
	{api.Instr{Op: api.Ei, N: 2}, api.ErrForm},
	{api.Instr{Op: api.Ei, N: -1}, api.ErrForm},
	{api.Instr{Op: api.Ei, N: -api.MaxImm}, api.ErrForm},
}

func TestCheckRefuses(t *testing.T) { // P2.2, P2.3
	for _, c := range refused {
		if e := cpu.Check(c.i); e != c.want {
			t.Errorf("Check(%v): %v; want %v", c.i, e, c.want)
		}
		if w, e := cpu.Encode(c.i); w != 0 || e != c.want {
			t.Errorf("Encode(%v): %d, %v; want 0, %v", c.i, w, e, c.want)
		}
	}
}

func TestDecodeRefuses(t *testing.T) { // P2.3
	for _, c := range []struct {
		w    int
		want api.Errno
	}{
		{1 << 30, api.ErrRange},
		{-1<<30 - 1, api.ErrRange},
		{api.MaxWord, api.ErrRange},
		{-api.MaxWord, api.ErrRange},
		{math.MaxInt, api.ErrRange},
		{math.MinInt, api.ErrRange},
		{1<<30 + api.Add, api.ErrRange},
		{1<<30 + 2<<10 + api.Ei, api.ErrRange},
		{api.Add + 8<<10, api.ErrForm},
		{api.Add - 1<<10, api.ErrForm},
		{api.Sub + 8<<10, api.ErrForm},
		{api.Sub - 1<<10, api.ErrForm},
		{api.Ei + 2<<10, api.ErrForm},
		{api.Ei - 1<<10, api.ErrForm},
		{-1<<30 + api.Ei, api.ErrForm},
		{1<<30 - 1024 + api.Sub, api.ErrForm},
	} {
		if i, e := cpu.Decode(c.w); i != (api.Instr{}) || e != c.want {
			t.Errorf("Decode(%d): %v, %v; want nothing, %v", c.w, i, e, c.want)
		}
	}
}

// TestDecodeIsEncodeBack: whatever is decoded is that word again.
func TestDecodeIsEncodeBack(t *testing.T) { // P2.3
	d := die(23)
	for range 5000 {
		n := d.below(1<<31) - 1<<30
		i, e := cpu.Decode(n)
		if e != api.OK {
			continue
		}
		if w, e := cpu.Encode(i); w != n || e != api.OK {
			t.Errorf("%d: %v, then %d, %v", n, i, w, e)
		}
	}
}
