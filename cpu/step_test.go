package cpu_test

import (
	"math"
	"slices"
	"strconv"
	"testing"

	"hourglass/api"
	"hourglass/cpu"
)

// start: where the instruction of going stands.
const start = 37

// word of an instruction that may be.
func word(t *testing.T, i api.Instr) int {
	t.Helper()
	w, e := cpu.Encode(i)
	if e != api.OK {
		t.Fatalf("Encode(%v): %v", i, e)
	}
	return w
}

// going: a guest whose next instruction is this one; no interrupt waits, no block is wanted, and there is no table.
func going(t *testing.T, i api.Instr) api.Machine {
	t.Helper()
	m := busy()
	m.End, m.Wait, m.Want, m.Table, m.Pc = api.Going, false, -1, -1, start
	m.Mem[start] = word(t, i)
	return m
}

// world: what comes to a step.
type world struct {
	irq   bool
	block []int
	value int
}

// change of a guest; nil: none.
type change func(m *api.Machine)

// wantStep: a step is answered with this guest, which may be, and this word was written.
func wantStep(t *testing.T, what string, m api.Machine, w world, want api.Machine, wrote int) {
	t.Helper()
	got, at, e := cpu.Step(m, w.irq, w.block, w.value)
	if e != api.OK || at != wrote || !same(got, want) {
		t.Errorf("%s: %v, %d, %v; want %v, %d, OK", what, got, at, e, want, wrote)
	}
	if e := cpu.CheckMachine(got); e != api.OK {
		t.Errorf("%s: what is answered may not be: %v", what, e)
	}
}

// after: a guest one instruction on, with a change.
func after(m api.Machine, then change) api.Machine {
	m = cpu.Copy(m)
	m.Count++
	m.Pc++
	if then != nil {
		then(&m)
	}
	return m
}

// ended: a guest that was ended by its next instruction: nothing but Count and End is another one.
func ended(m api.Machine, end int) api.Machine {
	m = cpu.Copy(m)
	m.Count++
	m.End = end
	return m
}

// set: changes of registers.
func set(n, w int) change { return func(m *api.Machine) { m.Regs[n] = w } }

func TestInstructions(t *testing.T) { // P2.7
	for _, c := range []struct {
		what  string
		i     api.Instr
		ahead change
		then  change
		wrote int
	}{
		{"Nop", api.Instr{Op: api.Nop, A: 3, B: 4, N: 5}, nil, nil, -1},
		{"Li", api.Instr{Op: api.Li, A: 3, B: 4, N: 77}, nil, set(3, 77), -1},
		{"Li, least", api.Instr{Op: api.Li, A: 7, N: -api.MaxImm}, nil, set(7, -api.MaxImm), -1},
		{"Li, most", api.Instr{Op: api.Li, N: api.MaxImm - 1}, nil, set(0, api.MaxImm-1), -1},
		{"Add", api.Instr{Op: api.Add, A: 1, B: 2, N: 3}, nil, set(1, 2005), -1},
		{"Add, to itself", api.Instr{Op: api.Add, A: 2, B: 2, N: 2}, nil, set(2, 2004), -1},
		{"Add, folded", api.Instr{Op: api.Add, A: 1, B: 2, N: 3}, set(2, api.MaxWord), set(1, -api.MaxWord+1002), -1},
		{"Add, most", api.Instr{Op: api.Add, A: 1, B: 2, N: 2}, set(2, api.MaxWord), set(1, -1), -1},
		{"Add, least", api.Instr{Op: api.Add, A: 1, B: 2, N: 2}, set(2, -api.MaxWord), set(1, 1), -1},
		{"Sub", api.Instr{Op: api.Sub, A: 1, B: 2, N: 7}, nil, set(1, -5), -1},
		{"Sub, from itself", api.Instr{Op: api.Sub, A: 2, B: 2, N: 2}, nil, set(2, 0), -1},
		{"Sub, folded", api.Instr{Op: api.Sub, A: 1, B: 2, N: 3}, set(2, -api.MaxWord), set(1, api.MaxWord-1002), -1},
		{"Addi", api.Instr{Op: api.Addi, A: 1, B: 2, N: -1003}, nil, set(1, -1), -1},
		{"Addi, folded", api.Instr{Op: api.Addi, A: 2, B: 2, N: 1}, set(2, api.MaxWord), set(2, -api.MaxWord), -1},
		{"Addi, folded below", api.Instr{Op: api.Addi, A: 2, B: 2, N: -1}, set(2, -api.MaxWord), set(2, api.MaxWord), -1},
		{"Ld", api.Instr{Op: api.Ld, A: 1, B: 2, N: -900}, nil, set(1, 2102), -1},
		{"Ld, first", api.Instr{Op: api.Ld, A: 1, B: 2, N: -1002}, nil, set(1, 2000), -1},
		{"Ld, last", api.Instr{Op: api.Ld, A: 2, B: 2, N: -747}, nil, set(2, 2255), -1},
		{"St", api.Instr{Op: api.St, A: 1, B: 2, N: -900}, nil, func(m *api.Machine) { m.Mem[102] = 1001 }, 102},
		{"St, first", api.Instr{Op: api.St, A: 7, B: 2, N: -1002}, nil, func(m *api.Machine) { m.Mem[0] = 1007 }, 0},
		{"St, last", api.Instr{Op: api.St, A: 2, B: 2, N: -747}, nil, func(m *api.Machine) { m.Mem[255] = 1002 }, 255},
		{"St, over itself", api.Instr{Op: api.St, A: 1, B: 0, N: start - 1000}, nil, func(m *api.Machine) { m.Mem[start] = 1001 }, start},
		{"St, the same", api.Instr{Op: api.St, A: 1, B: 2, N: -900}, set(1, 2102), nil, 102},
		{"Ei, 1", api.Instr{Op: api.Ei, N: 1}, func(m *api.Machine) { m.Ints = false }, func(m *api.Machine) { m.Ints = true }, -1},
		{"Ei, 0", api.Instr{Op: api.Ei}, nil, func(m *api.Machine) { m.Ints = false }, -1},
		{"Ei, 1 again", api.Instr{Op: api.Ei, N: 1}, nil, nil, -1},
		{"Iret", api.Instr{Op: api.Iret}, func(m *api.Machine) { m.Ints = false }, func(m *api.Machine) { m.Ints, m.Pc = true, 44 }, -1},
		{"Iret, far", api.Instr{Op: api.Iret}, func(m *api.Machine) { m.Back = -api.MaxWord }, func(m *api.Machine) { m.Pc = -api.MaxWord }, -1},
		{"Map", api.Instr{Op: api.Map, A: 4}, set(4, 15), func(m *api.Machine) { m.Table = 15 }, -1},
		{"Map, page 0", api.Instr{Op: api.Map, A: 4}, set(4, 0), func(m *api.Machine) { m.Table = 0 }, -1},
		{"Map, none", api.Instr{Op: api.Map, A: 4}, set(4, -1), nil, -1},
	} {
		m := going(t, c.i)
		if c.ahead != nil {
			c.ahead(&m)
		}
		wantStep(t, c.what, m, world{value: 66}, after(m, c.then), c.wrote)
	}
}

func TestJumps(t *testing.T) { // P2.7
	for _, c := range []struct{ op, a, n, pc int }{
		{api.Jz, 0, 9, start + 9},
		{api.Jz, 0, -9, start - 9},
		{api.Jz, 0, 0, start},
		{api.Jz, 1, 9, start + 1},
		{api.Jz, -1, 9, start + 1},
		{api.Jz, api.MaxWord, 9, start + 1},
		{api.Jn, -1, 9, start + 9},
		{api.Jn, -api.MaxWord, -9, start - 9},
		{api.Jn, 0, 9, start + 1},
		{api.Jn, 1, 9, start + 1},
		{api.Jmp, 0, 9, start + 9},
		{api.Jmp, 1, -start, 0},
		{api.Jmp, -1, 0, start},
		{api.Jmp, 0, 1, start + 1},
		{api.Jmp, 0, api.MaxImm - 1, start + api.MaxImm - 1},
		{api.Jmp, 0, -api.MaxImm, start - api.MaxImm},
	} {
		m := going(t, api.Instr{Op: c.op, A: 5, N: c.n})
		m.Regs[5] = c.a
		want := after(m, func(m *api.Machine) { m.Pc = c.pc })
		wantStep(t, "jump "+strconv.Itoa(c.op)+" by "+strconv.Itoa(c.n), m, world{}, want, -1)
	}
}

func TestIn(t *testing.T) { // P2.7
	for _, value := range []int{0, 5, -5, api.MaxWord, -api.MaxWord} {
		for _, port := range []int{api.Clock, api.Key} {
			m := going(t, api.Instr{Op: api.In, A: 2, N: port})
			wantStep(t, "In", m, world{value: value}, after(m, set(2, value)), -1)
		}
		for ready := range 2 {
			m := going(t, api.Instr{Op: api.In, A: 2, N: api.State})
			m.Ready = ready
			wantStep(t, "In, State", m, world{value: value}, after(m, set(2, ready)), -1)
		}
	}
}

func TestConsole(t *testing.T) { // P2.7
	for n := range api.MaxOut + 1 {
		m := going(t, api.Instr{Op: api.Out, A: 2, N: api.Console})
		m.Out = filled(n, 1)
		m.Regs[2] = -n
		want := after(m, func(m *api.Machine) {
			if n < api.MaxOut {
				m.Out = append(m.Out, -n)
			}
		})
		wantStep(t, "Console, told "+strconv.Itoa(n), m, world{}, want, -1)
	}
}

func TestDisk(t *testing.T) { // P2.7
	for page := range api.Pages {
		for ready := range 2 {
			m := going(t, api.Instr{Op: api.Out, A: 2, N: api.Disk})
			m.Ready, m.Regs[2] = ready, page
			want := after(m, func(m *api.Machine) { m.Want, m.Ready = page, 0 })
			wantStep(t, "Disk", m, world{}, want, -1)
			m.Want = 3
			wantStep(t, "Disk, one is wanted", m, world{}, after(m, nil), -1)
		}
	}
}

// TestDiskAsBlockComes: the block that was wanted comes ahead of the instruction, which may want the next one.
func TestDiskAsBlockComes(t *testing.T) { // P2.7
	m := going(t, api.Instr{Op: api.Out, A: 2, N: api.Disk})
	m.Ints, m.Want, m.Regs[2] = false, 3, 5
	want := after(m, func(m *api.Machine) {
		copy(m.Mem[48:], filled(api.PageWords, 7))
		m.Want, m.Ready, m.Wait = 5, 0, true
	})
	wantStep(t, "Disk", m, world{block: filled(api.PageWords, 7)}, want, -1)
}

func TestEnds(t *testing.T) { // P2.6, P2.7
	for _, c := range []struct {
		what  string
		i     api.Instr
		ahead change
		end   int
	}{
		{"Halt", api.Instr{A: 1, B: 2, N: 3}, nil, api.Halted},
		{"Ld, below", api.Instr{Op: api.Ld, A: 1, B: 2, N: -1003}, nil, api.BadAt},
		{"Ld, above", api.Instr{Op: api.Ld, A: 1, B: 2, N: -746}, nil, api.BadAt},
		{"Ld, far", api.Instr{Op: api.Ld, A: 1, B: 2, N: api.MaxImm - 1}, set(2, api.MaxWord), api.BadAt},
		{"Ld, far below", api.Instr{Op: api.Ld, A: 1, B: 2, N: -api.MaxImm}, set(2, -api.MaxWord), api.BadAt},
		{"St, below", api.Instr{Op: api.St, A: 1, B: 2, N: -1003}, nil, api.BadAt},
		{"St, above", api.Instr{Op: api.St, A: 1, B: 2, N: -746}, nil, api.BadAt},
		{"In, Console", api.Instr{Op: api.In, A: 1, N: api.Console}, nil, api.BadAt},
		{"In, Disk", api.Instr{Op: api.In, A: 1, N: api.Disk}, nil, api.BadAt},
		{"In, no port", api.Instr{Op: api.In, A: 1, N: 5}, nil, api.BadAt},
		{"In, below", api.Instr{Op: api.In, A: 1, N: -1}, nil, api.BadAt},
		{"Out, Clock", api.Instr{Op: api.Out, A: 1, N: api.Clock}, nil, api.BadAt},
		{"Out, Key", api.Instr{Op: api.Out, A: 1, N: api.Key}, nil, api.BadAt},
		{"Out, State", api.Instr{Op: api.Out, A: 1, N: api.State}, nil, api.BadAt},
		{"Out, no port", api.Instr{Op: api.Out, A: 1, N: 5}, nil, api.BadAt},
		{"Out, below", api.Instr{Op: api.Out, A: 1, N: -1}, nil, api.BadAt},
		{"Disk, below", api.Instr{Op: api.Out, A: 1, N: api.Disk}, set(1, -1), api.BadAt},
		{"Disk, above", api.Instr{Op: api.Out, A: 1, N: api.Disk}, set(1, api.Pages), api.BadAt},
		{"Disk, far", api.Instr{Op: api.Out, A: 1, N: api.Disk}, set(1, -api.MaxWord), api.BadAt},
		{"Disk, one is wanted", api.Instr{Op: api.Out, A: 1, N: api.Disk}, func(m *api.Machine) { m.Want = 2 }, api.BadAt},
		{"Map, below", api.Instr{Op: api.Map, A: 1}, set(1, -2), api.BadAt},
		{"Map, above", api.Instr{Op: api.Map, A: 1}, set(1, api.Pages), api.BadAt},
		{"Map, far", api.Instr{Op: api.Map, A: 1}, set(1, api.MaxWord), api.BadAt},
		{"Pc below", api.Instr{Op: api.Nop}, func(m *api.Machine) { m.Pc = -1 }, api.BadAt},
		{"Pc above", api.Instr{Op: api.Nop}, func(m *api.Machine) { m.Pc = api.Words }, api.BadAt},
		{"Pc far below", api.Instr{Op: api.Nop}, func(m *api.Machine) { m.Pc = -api.MaxWord }, api.BadAt},
		{"Pc far above", api.Instr{Op: api.Nop}, func(m *api.Machine) { m.Pc = api.MaxWord }, api.BadAt},
		{"N is too great", api.Instr{}, func(m *api.Machine) { m.Mem[start] = 1 << 30 }, api.BadCode},
		{"N is too small", api.Instr{}, func(m *api.Machine) { m.Mem[start] = -1<<30 - 1 }, api.BadCode},
		{"the greatest word", api.Instr{}, func(m *api.Machine) { m.Mem[start] = api.MaxWord }, api.BadCode},
		{"no register to add", api.Instr{}, func(m *api.Machine) { m.Mem[start] = api.Add + 8<<10 }, api.BadCode},
		{"neither let in nor not", api.Instr{}, func(m *api.Machine) { m.Mem[start] = api.Ei + 2<<10 }, api.BadCode},
	} {
		m := going(t, c.i)
		if c.ahead != nil {
			c.ahead(&m)
		}
		wantStep(t, c.what, m, world{value: 66}, ended(m, c.end), -1)
	}
}

// TestPcEdges: the first and the last word may be instructions; behind the last one there is none.
func TestPcEdges(t *testing.T) { // P2.6, P2.7
	for _, pc := range []int{0, api.Words - 1} {
		m := going(t, api.Instr{Op: api.Nop})
		m.Mem[pc], m.Pc = word(t, api.Instr{Op: api.Nop}), pc
		wantStep(t, "Nop", m, world{}, after(m, nil), -1)
	}
}

// paged: a guest with a table in page 5 that tells for page 2, where the Pc is, the page with the instruction, and for page 6 this word.
func paged(t *testing.T, i api.Instr, told int) api.Machine {
	t.Helper()
	m := going(t, i)
	m.Table = 5
	m.Mem[5*api.PageWords+2] = 32 + 11
	m.Mem[11*api.PageWords+start%api.PageWords] = word(t, i)
	m.Mem[start] = api.MaxWord
	m.Mem[5*api.PageWords+6] = told
	m.Regs[2] = 6 * api.PageWords
	return m
}

func TestTableReads(t *testing.T) { // P2.6
	for told := -20; told < 100; told++ {
		m := paged(t, api.Instr{Op: api.Ld, A: 1, B: 2, N: 3}, told)
		if told < 32 || told > 63 {
			wantStep(t, "Ld, "+strconv.Itoa(told), m, world{}, ended(m, api.BadPage), -1)
			continue
		}
		want := after(m, set(1, m.Mem[told%16*api.PageWords+3]))
		wantStep(t, "Ld, "+strconv.Itoa(told), m, world{}, want, -1)
	}
}

func TestTableWrites(t *testing.T) { // P2.6, P2.7
	for told := -20; told < 100; told++ {
		m := paged(t, api.Instr{Op: api.St, A: 1, B: 2, N: 3}, told)
		if told < 48 || told > 63 {
			wantStep(t, "St, "+strconv.Itoa(told), m, world{}, ended(m, api.BadPage), -1)
			continue
		}
		at := told%16*api.PageWords + 3
		want := after(m, func(m *api.Machine) { m.Mem[at] = 1001 })
		wantStep(t, "St, "+strconv.Itoa(told), m, world{}, want, at)
	}
}

func TestTableOfCode(t *testing.T) { // P2.6
	i := api.Instr{Op: api.Li, A: 1, N: 6}
	for told := -20; told < 100; told++ {
		m := paged(t, i, 0)
		m.Mem[5*api.PageWords+2] = told
		if told < 32 || told > 63 {
			wantStep(t, "code, "+strconv.Itoa(told), m, world{}, ended(m, api.BadPage), -1)
			continue
		}
		m.Mem[told%16*api.PageWords+start%api.PageWords] = word(t, i)
		if told%16 == 5 && start%api.PageWords == 2 {
			t.Fatal("the instruction stands in the table")
		}
		wantStep(t, "code, "+strconv.Itoa(told), m, world{}, after(m, set(1, 6)), -1)
	}
}

// TestTableFarWords: words of a table that are far from any page, and addresses that no table helps.
func TestTableFarWords(t *testing.T) { // P2.6
	for _, told := range []int{api.MaxWord, -api.MaxWord, -32, -33, -48, 32 - 1<<32, 48 + 1<<32} {
		m := paged(t, api.Instr{Op: api.St, A: 1, B: 2, N: 3}, told)
		wantStep(t, "St", m, world{}, ended(m, api.BadPage), -1)
	}
	for _, at := range []int{-1, -16, api.Words, api.MaxWord, -api.MaxWord} {
		for _, op := range []int{api.Ld, api.St} {
			m := paged(t, api.Instr{Op: op, A: 1, B: 2}, 48)
			m.Regs[2] = at
			wantStep(t, "at "+strconv.Itoa(at), m, world{}, ended(m, api.BadAt), -1)
		}
		m := paged(t, api.Instr{Op: api.Nop}, 48)
		m.Pc = at
		wantStep(t, "Pc "+strconv.Itoa(at), m, world{}, ended(m, api.BadAt), -1)
	}
	m := paged(t, api.Instr{Op: api.Nop}, 48)
	m.Mem[11*api.PageWords+start%api.PageWords] = api.MaxWord
	wantStep(t, "no code", m, world{}, ended(m, api.BadCode), -1)
}

// TestTableEdges: tables in the first and the last page, asked for the first and the last word.
func TestTableEdges(t *testing.T) { // P2.6
	for _, table := range []int{0, api.Pages - 1} {
		for _, at := range []int{0, api.Words - 1} {
			m := going(t, api.Instr{Op: api.Ld, A: 1, B: 2})
			m.Table, m.Regs[2] = table, at
			m.Mem[table*api.PageWords+2] = 32 + 2
			m.Mem[table*api.PageWords+at/api.PageWords] = 32 + 9
			want := after(m, set(1, m.Mem[9*api.PageWords+at%api.PageWords]))
			wantStep(t, "Ld", m, world{}, want, -1)
		}
	}
}

func TestInterrupts(t *testing.T) { // P2.7
	for _, ints := range []bool{false, true} {
		for _, wait := range []bool{false, true} {
			for _, irq := range []bool{false, true} {
				m := going(t, api.Instr{Op: api.Li, A: 1, N: 6})
				m.Ints, m.Wait = ints, wait
				m.Mem[api.Vector] = word(t, api.Instr{Op: api.Li, A: 2, N: 7})
				want := after(m, func(m *api.Machine) { m.Wait, m.Regs[1] = wait || irq, 6 })
				if ints && (wait || irq) {
					want = after(m, func(m *api.Machine) {
						m.Wait, m.Ints, m.Back, m.Pc, m.Regs[2] = false, false, start, api.Vector+1, 7
					})
				}
				what := "Ints " + strconv.FormatBool(ints) + ", Wait " + strconv.FormatBool(wait) + ", irq " + strconv.FormatBool(irq)
				wantStep(t, what, m, world{irq: irq}, want, -1)
			}
		}
	}
}

// TestInterruptIsLetInAhead: it is not the instruction that lets in or shuts out, but what was ahead of it.
func TestInterruptIsLetInAhead(t *testing.T) { // P2.7
	m := going(t, api.Instr{Op: api.Ei, N: 1})
	m.Ints = false
	want := after(m, func(m *api.Machine) { m.Ints, m.Wait = true, true })
	wantStep(t, "Ei", m, world{irq: true}, want, -1)
	m = going(t, api.Instr{Op: api.Iret})
	m.Ints, m.Wait = false, true
	want = after(m, func(m *api.Machine) { m.Ints, m.Pc = true, 44 })
	wantStep(t, "Iret", m, world{}, want, -1)
	m.Ints = true
	m.Mem[api.Vector] = word(t, api.Instr{Op: api.Iret})
	want = after(m, func(m *api.Machine) { m.Wait, m.Back, m.Pc = false, start, start })
	wantStep(t, "Iret at Vector", m, world{}, want, -1)
}

// TestInterruptAnywhere: where the Pc is no word's an interrupt leads to Vector all the same.
func TestInterruptAnywhere(t *testing.T) { // P2.7
	for _, pc := range []int{-1, api.Words, api.MaxWord, -api.MaxWord} {
		m := going(t, api.Instr{Op: api.Nop})
		m.Pc, m.Mem[api.Vector] = pc, word(t, api.Instr{Op: api.Nop})
		want := after(m, func(m *api.Machine) { m.Ints, m.Back, m.Pc = false, pc, api.Vector+1 })
		wantStep(t, "irq", m, world{irq: true}, want, -1)
	}
}

// TestEndsBehindInterrupt: what came ahead of the instruction that ends the guest has come.
func TestEndsBehindInterrupt(t *testing.T) { // P2.7
	block := filled(api.PageWords, -8)
	for what, c := range map[string]struct{ word, end int }{
		"Halt":    {0, api.Halted},
		"BadCode": {api.MaxWord, api.BadCode},
		"BadAt":   {api.In + 9<<10, api.BadAt},
	} {
		m := going(t, api.Instr{Op: api.Nop})
		m.Want, m.Ready, m.Mem[api.Vector] = 12, 0, c.word
		want := ended(m, c.end)
		copy(want.Mem[12*api.PageWords:], block)
		want.Want, want.Ready, want.Ints, want.Back, want.Pc = -1, 1, false, start, api.Vector
		wantStep(t, what, m, world{block: block}, want, -1)
	}
	m := paged(t, api.Instr{Op: api.Nop}, 48)
	want := ended(m, api.BadPage)
	want.Ints, want.Back, want.Pc = false, start, api.Vector
	wantStep(t, "Vector has no page", m, world{irq: true}, want, -1)
}

func TestBlocks(t *testing.T) { // P2.7
	block := []int{api.MaxWord, -api.MaxWord, 3, 4, 5, 6, 7, 8, 9, 10, 11, 12, 13, 14, 15, 16}
	for page := range api.Pages {
		m := going(t, api.Instr{Op: api.Nop})
		m.Pc = (start + 8*api.PageWords*(page/8+1)) % api.Words // not in the page that comes
		m.Mem[m.Pc], m.Ints, m.Ready, m.Want = word(t, api.Instr{Op: api.Nop}), false, 0, page
		want := after(m, func(m *api.Machine) {
			copy(m.Mem[page*api.PageWords:], block)
			m.Want, m.Ready, m.Wait = -1, 1, true
		})
		wantStep(t, "page "+strconv.Itoa(page), m, world{block: block}, want, -1)
	}
	for _, none := range [][]int{nil, {}} {
		m := going(t, api.Instr{Op: api.Nop})
		m.Want, m.Ready = 4, 0
		wantStep(t, "no block", m, world{block: none}, after(m, nil), -1)
	}
	m := going(t, api.Instr{Op: api.Nop})
	m.Ready = 0
	wantStep(t, "none is wanted", m, world{block: block}, after(m, nil), -1)
}

// TestBlockIsLetIn: the interrupt of a block is let in at once; the block may bring what is done then.
func TestBlockIsLetIn(t *testing.T) { // P2.7
	block := filled(api.PageWords, 0)
	block[api.Vector] = word(t, api.Instr{Op: api.In, A: 1, N: api.State})
	m := going(t, api.Instr{Op: api.Nop})
	m.Want, m.Ready = 0, 0
	want := after(m, func(m *api.Machine) {
		copy(m.Mem, block)
		m.Want, m.Ready, m.Ints, m.Back, m.Pc, m.Regs[1] = -1, 1, false, start, api.Vector+1, 1
	})
	wantStep(t, "block", m, world{block: block}, want, -1)
}

// TestBlockPastTable: a block comes to the page that is wanted, whatever the table says; even to the table.
func TestBlockPastTable(t *testing.T) { // P2.7
	block := filled(api.PageWords, 0)
	m := paged(t, api.Instr{Op: api.Nop}, 48+9)
	m.Ints, m.Want = false, 6
	want := after(m, func(m *api.Machine) {
		copy(m.Mem[6*api.PageWords:], block)
		m.Want, m.Wait = -1, true
	})
	wantStep(t, "another page is told", m, world{block: block}, want, -1)
	m.Want = 5
	want = ended(m, api.BadPage)
	copy(want.Mem[5*api.PageWords:], block)
	want.Want, want.Wait = -1, true
	wantStep(t, "the table itself", m, world{block: block}, want, -1)
}

func TestEndedStays(t *testing.T) { // P2.7
	for _, end := range []int{api.Halted, api.BadCode, api.BadAt, api.BadPage} {
		m := going(t, api.Instr{Op: api.St, A: 1, B: 2, N: -900})
		m.End, m.Want = end, 4
		for _, irq := range []bool{false, true} {
			wantStep(t, "ended", m, world{irq: irq}, m, -1)
			wantStep(t, "ended, a block comes", m, world{irq: irq, block: filled(api.PageWords, 1), value: 4}, m, -1)
		}
	}
}

// wantRefused: a step is refused so, and all else is zero.
func wantRefused(t *testing.T, what string, m api.Machine, w world, want api.Errno) {
	t.Helper()
	got, at, e := cpu.Step(m, w.irq, w.block, w.value)
	if e != want || at != 0 || !isZero(got) {
		t.Errorf("%s: %v, %d, %v; want nothing, 0, %v", what, got, at, e, want)
	}
}

func TestStepRefuses(t *testing.T) { // P2.7
	for what, m := range mayNotBe() {
		wantRefused(t, what, m, world{}, api.ErrState)
		wantRefused(t, what+", all else, too", m, world{block: []int{math.MaxInt}, value: math.MaxInt}, api.ErrState)
	}
	for _, end := range []int{api.Going, api.Halted, api.BadPage} {
		for _, want := range []int{-1, 4} {
			m := going(t, api.Instr{Op: api.Nop})
			m.End, m.Want = end, want
			refusedInputs(t, m)
			m.Count = api.MaxWord
			wantRefused(t, "the last count", m, world{}, api.ErrRange)
			wantRefused(t, "the last count, a short block", m, world{block: []int{1}}, api.ErrSize)
		}
	}
	m := going(t, api.Instr{Op: api.Nop})
	m.Count = api.MaxWord - 1
	wantStep(t, "the last count but one", m, world{}, after(m, nil), -1)
}

// refusedInputs: blocks and values that no guest takes.
func refusedInputs(t *testing.T, m api.Machine) {
	t.Helper()
	for _, n := range []int{1, api.PageWords - 1, api.PageWords + 1, api.Words, 1 << 16} {
		wantRefused(t, "a block of "+strconv.Itoa(n), m, world{block: make([]int, n)}, api.ErrSize)
	}
	wantRefused(t, "a short block, no words", m, world{block: []int{math.MaxInt}, value: math.MaxInt}, api.ErrSize)
	for _, w := range noWords {
		wantRefused(t, "value", m, world{value: w}, api.ErrRange)
		wantRefused(t, "value, with a block", m, world{block: filled(api.PageWords, 1), value: w}, api.ErrRange)
		for _, at := range []int{0, 7, api.PageWords - 1} {
			block := filled(api.PageWords, 1)
			block[at] = w
			wantRefused(t, "a word of a block", m, world{block: block}, api.ErrRange)
		}
	}
}

// TestStepMemory: a step changes nothing that was handed in and shares nothing with it, spare room too.
func TestStepMemory(t *testing.T) { // P2.7
	ops := []api.Instr{
		{Op: api.Li, A: 1, N: 5},
		{Op: api.St, A: 1, B: 2, N: -900},
		{Op: api.Out, A: 1, N: api.Console},
		{Op: api.Halt},
		{Op: api.Ld, A: 1, B: 2},
	}
	for _, i := range ops {
		for _, end := range []int{api.Going, api.BadAt} {
			make := func() api.Machine {
				m := going(t, i)
				m.End, m.Want, m.Ints = end, 4, false
				m.Regs, m.Mem, m.Out = withRoom(m.Regs), withRoom(m.Mem), withRoom(m.Out)
				return m
			}
			m, block := make(), withRoom(filled(api.PageWords, 9))
			got, _, _ := cpu.Step(m, true, block, 1)
			other, _, _ := cpu.Step(m, true, block, 1)
			want := plain(other)
			if !scribble(got) {
				t.Errorf("%v: two lists of the answer share memory", i)
			}
			if !unchanged(m, make()) || !equalWhole(block, withRoom(filled(api.PageWords, 9))) {
				t.Errorf("%v: what was handed in is changed", i)
			}
			scribble(m)
			clear(whole(block))
			if !same(other, want) {
				t.Errorf("%v: an answer is changed", i)
			}
		}
	}
}

// TestStepOneList: lists that were handed in as one are not one in the answer.
func TestStepOneList(t *testing.T) { // P2.7
	words := make([]int, api.Words)
	words[0], words[1] = word(t, api.Instr{Op: api.St, A: 1, B: 1, N: 2}), 5
	m := api.Machine{Regs: words[:api.Regs], Mem: words, Out: words[:api.Regs], Table: -1, Want: 3}
	want := after(m, func(m *api.Machine) {
		copy(m.Mem[48:], words[:api.PageWords])
		m.Mem[7] = 5
		m.Want, m.Ready, m.Wait = -1, 1, true
	})
	wantStep(t, "St", m, world{block: words[:api.PageWords]}, want, 7)
	got, _, _ := cpu.Step(m, false, words[:api.PageWords], 0)
	if !scribble(got) || words[0] == -1000 || slices.Contains(words, -1001) {
		t.Error("what was handed in, or another list of the answer, is shared")
	}
}
