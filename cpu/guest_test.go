package cpu_test

import (
	"slices"
	"strconv"
	"testing"

	"hourglass/api"
	"hourglass/cpu"
)

// image of instructions, from word 0 on.
func image(t *testing.T, l ...api.Instr) []int {
	t.Helper()
	var words []int
	for _, i := range l {
		words = append(words, word(t, i))
	}
	return words
}

// steps of a guest until it ends, each of them in the world that is told for it.
func steps(t *testing.T, m api.Machine, comes func(count int) world) (api.Machine, []int) {
	t.Helper()
	var wrote []int
	for m.End == api.Going {
		if m.Count > 2000 {
			t.Fatal("the guest goes on and on")
		}
		w := comes(m.Count)
		n, at, e := cpu.Step(m, w.irq, w.block, w.value)
		if e != api.OK || n.Count != m.Count+1 {
			t.Fatalf("step %d: %v, count %d", m.Count, e, n.Count)
		}
		if at >= 0 {
			wrote = append(wrote, at)
		}
		m = n
	}
	return m, wrote
}

// quiet: a world in which nothing comes.
func quiet(int) world { return world{} }

// TestGuestAsksTheWorld: it asks Clock, is told 5, and tells that to the Console, twice.
func TestGuestAsksTheWorld(t *testing.T) {
	m, _ := cpu.New(image(t,
		api.Instr{Op: api.Li, A: 1, N: 2},
		api.Instr{Op: api.In, A: 2, N: api.Clock},
		api.Instr{Op: api.Out, A: 2, N: api.Console},
		api.Instr{Op: api.Addi, A: 1, B: 1, N: -1},
		api.Instr{Op: api.Jz, A: 1, N: 2},
		api.Instr{Op: api.Jmp, N: -4},
		api.Instr{Op: api.Halt},
	))
	m, wrote := steps(t, m, func(int) world { return world{value: 5} })
	if !slices.Equal(m.Out, []int{5, 5}) || m.End != api.Halted || m.Count != 11 || m.Pc != 6 || wrote != nil {
		t.Errorf("%v, wrote %v", m, wrote)
	}
}

// TestGuestWithInterrupts: a loop that counts down, and at Vector one that counts interrupts.
func TestGuestWithInterrupts(t *testing.T) {
	m, _ := cpu.New(image(t,
		api.Instr{Op: api.Ei, N: 1},
		api.Instr{Op: api.Li, A: 1, N: 50},
		api.Instr{Op: api.Addi, A: 1, B: 1, N: -1},
		api.Instr{Op: api.Jz, A: 1, N: 2},
		api.Instr{Op: api.Jmp, N: -2},
		api.Instr{Op: api.Halt},
		api.Instr{Op: api.Halt},
		api.Instr{Op: api.Halt},
		api.Instr{Op: api.Addi, A: 2, B: 2, N: 1}, // Vector
		api.Instr{Op: api.St, A: 2, B: 3, N: 100},
		api.Instr{Op: api.Iret},
	))
	// Of two that come within one interrupt one waits; of three two are one.
	irqs := []int{0, 10, 11, 30, 31, 32, 60}
	m, wrote := steps(t, m, func(count int) world { return world{irq: slices.Contains(irqs, count)} })
	if m.Regs[2] != 6 || m.Mem[100] != 6 || m.Regs[1] != 0 || m.End != api.Halted {
		t.Errorf("%v", m)
	}
	if !slices.Equal(wrote, []int{100, 100, 100, 100, 100, 100}) {
		t.Errorf("wrote %v", wrote)
	}
}

// TestGuestWithDisk: it asks a block for page 4, waits for State, and tells the block's first words.
func TestGuestWithDisk(t *testing.T) {
	m, _ := cpu.New(image(t,
		api.Instr{Op: api.Li, A: 1, N: 4},
		api.Instr{Op: api.Out, A: 1, N: api.Disk},
		api.Instr{Op: api.In, A: 2, N: api.State},
		api.Instr{Op: api.Jz, A: 2, N: -1},
		api.Instr{Op: api.Ld, A: 3, B: 0, N: 64},
		api.Instr{Op: api.Out, A: 3, N: api.Console},
		api.Instr{Op: api.Ld, A: 3, B: 0, N: 79},
		api.Instr{Op: api.Out, A: 3, N: api.Console},
	))
	m, _ = steps(t, m, func(count int) world {
		if count == 1 || count == 9 {
			return world{block: filled(api.PageWords, 10*count)}
		}
		return world{}
	})
	if !slices.Equal(m.Out, []int{90, 105}) || m.Want != -1 || m.Ready != 1 || !m.Wait || m.End != api.Halted {
		t.Errorf("%v", m)
	}
}

// TestGuestWithTable: it lays a table of pages, writes through it, and is stopped where it may not write.
func TestGuestWithTable(t *testing.T) {
	l := image(t,
		api.Instr{Op: api.Li, A: 1, N: 15},
		api.Instr{Op: api.Map, A: 1},
		api.Instr{Op: api.St, A: 1, B: 0, N: 16 + 5}, // page 1 means 9
		api.Instr{Op: api.Ld, A: 2, B: 0, N: 32 + 5}, // page 2 means 9, too
		api.Instr{Op: api.Out, A: 2, N: api.Console},
		api.Instr{Op: api.St, A: 1, B: 0, N: 32 + 5}, // but may not be written
	)
	l = append(l, make([]int, api.Words-len(l))...)
	l[240], l[241], l[242] = 32, 48+9, 32+9
	m, _ := cpu.New(l)
	m, wrote := steps(t, m, quiet)
	if m.Mem[9*16+5] != 15 || !slices.Equal(m.Out, []int{15}) || m.End != api.BadPage || m.Pc != 5 || m.Count != 6 {
		t.Errorf("%v", m)
	}
	if !slices.Equal(wrote, []int{9*16 + 5}) {
		t.Errorf("wrote %v", wrote)
	}
}

// TestGuestRunsOut: behind its last word there is none.
func TestGuestRunsOut(t *testing.T) {
	m, _ := cpu.New(slices.Repeat(image(t, api.Instr{Op: api.Nop}), api.Words))
	m, _ = steps(t, m, quiet)
	if m.End != api.BadAt || m.Pc != api.Words || m.Count != api.Words+1 {
		t.Errorf("%v", m)
	}
}

// drawn guest: one that may be, whatever it is.
func drawn(d *die) api.Machine {
	m := api.Machine{
		Regs: make([]int, api.Regs), Mem: make([]int, api.Words), Out: filled(api.MaxOut-d.below(3), 0),
		Pc: d.below(api.Words+4) - 2, Back: d.below(300), Ints: d.below(2) == 0, Wait: d.below(4) == 0,
		Table: d.below(api.Pages+1) - 1, Count: d.below(1000), Ready: d.below(2), Want: d.below(api.Pages+1) - 1,
	}
	for n := range m.Regs {
		m.Regs[n] = []int{d.below(20) - 3, d.below(300), api.MaxWord - d.below(3), d.below(3) - api.MaxWord}[d.below(4)]
	}
	for n := range m.Mem {
		code := d.below(1 << 13)
		m.Mem[n] = []int{code, code - 1<<12, 32 + d.below(32), d.below(70), api.MaxWord}[d.below(20)/5+d.below(50)/49]
	}
	return m
}

// TestDrawnGuests: whatever is done, the answer may be, is the same again, and what ended stays.
func TestDrawnGuests(t *testing.T) { // P2.4, P2.7
	d := die(27)
	ends := map[int]int{}
	for range 1000 {
		m := drawn(&d)
		for range 12 {
			was := plain(m)
			w := world{irq: d.below(4) == 0, value: d.below(100) - 50}
			if d.below(4) == 0 {
				w.block = filled(api.PageWords, d.below(40))
			}
			n, at, e := cpu.Step(m, w.irq, w.block, w.value)
			again, at2, _ := cpu.Step(m, w.irq, w.block, w.value)
			if e != api.OK || cpu.CheckMachine(n) != api.OK || at < -1 || at >= api.Words {
				t.Fatalf("%v: %v, %d, %v", was, n, at, e)
			}
			if !same(n, again) || at != at2 || !same(m, was) {
				t.Fatalf("%v: %v, then %v", was, n, again)
			}
			if m.End != api.Going && (!same(m, n) || at != -1) {
				t.Fatalf("%v has ended, but steps to %v", m, n)
			}
			m = n
		}
		ends[m.End]++
	}
	for end := api.Going; end <= api.BadPage; end++ {
		if ends[end] < 20 {
			t.Errorf("End %s comes %d times: too seldom to be tried", strconv.Itoa(end), ends[end])
		}
	}
}
