package cpu

import "hourglass/api"

// Words of a table of pages: these tell a page; the upper ones of them, one that may be written.
const (
	leastPage    = 32
	leastToWrite = 48
	mostPage     = 63
)

// Step of a guest: an interrupt comes, or not; a block (none, if it has no words); what In is told. Which word it wrote, -1: none.
func Step(m api.Machine, irq bool, block []int, value int) (api.Machine, int, api.Errno) {
	if e := checkStep(m, block, value); e != api.OK {
		return api.Machine{}, 0, e
	}
	g := Copy(m)
	if g.End != api.Going {
		return g, none, api.OK
	}
	comeAhead(&g, irq, block)
	g.Count++
	wrote := doNext(&g, value)
	return g, wrote, api.OK
}

// Asks: would such a step of a guest ask the world for a word? One that is refused asks nothing.
func Asks(m api.Machine, irq bool, block []int) bool {
	if checkStep(m, block, 0) != api.OK || m.End != api.Going {
		return false
	}
	g := Copy(m)
	comeAhead(&g, irq, block)
	i, end := next(&g)
	return end == api.Going && i.Op == api.In && isOfWorld(i.N)
}

// checkStep holds for a guest that has ended, too: a step of it is refused for the same reasons.
func checkStep(m api.Machine, block []int, value int) api.Errno {
	if e := CheckMachine(m); e != api.OK {
		return e
	}
	if len(block) != 0 && len(block) != api.PageWords {
		return api.ErrSize
	}
	if haveNoWord(block) || isNoWord()(value) || m.Count == api.MaxWord {
		return api.ErrRange
	}
	return api.OK
}

// comeAhead of the instruction: an interrupt, and a block; by them the next instruction may be another one.
func comeAhead(m *api.Machine, irq bool, block []int) {
	if irq {
		m.Wait = true
	}
	takeBlock(m, block)
	letIn(m)
}

// takeBlock into the page that was wanted, as the host has it: no table is asked.
func takeBlock(m *api.Machine, block []int) {
	if len(block) == 0 || m.Want == none {
		return
	}
	copy(m.Mem[m.Want*api.PageWords:], block)
	m.Want = none
	m.Ready = 1
	m.Wait = true
}

// letIn the interrupt that waits, if the guest lets one in.
func letIn(m *api.Machine) {
	if !m.Wait || !m.Ints {
		return
	}
	m.Wait = false
	m.Ints = false
	m.Back = m.Pc
	m.Pc = api.Vector
}

// doNext instruction. Where it ends the guest it does nothing else: whatever may end it is asked ahead of all that it changes.
func doNext(m *api.Machine, value int) int {
	i, end := next(m)
	if end != api.Going {
		m.End = end
		return none
	}
	wrote := none
	pc := m.Pc + 1
	switch i.Op {
	case api.Halt:
		m.End = api.Halted
	case api.Li:
		m.Regs[i.A] = i.N
	case api.Add:
		m.Regs[i.A] = Fold(m.Regs[i.B] + m.Regs[i.N])
	case api.Sub:
		m.Regs[i.A] = Fold(m.Regs[i.B] - m.Regs[i.N])
	case api.Addi:
		m.Regs[i.A] = Fold(m.Regs[i.B] + i.N)
	case api.Ld:
		load(m, i)
	case api.St:
		wrote = store(m, i)
	case api.Jz, api.Jn, api.Jmp:
		if jumps(i.Op, m.Regs[i.A]) {
			pc = m.Pc + i.N
		}
	case api.In:
		in(m, i, value)
	case api.Out:
		out(m, i)
	case api.Ei:
		m.Ints = i.N == 1
	case api.Iret:
		m.Ints = true
		pc = m.Back
	case api.Map:
		setTable(m, m.Regs[i.A])
	}
	if m.End == api.Going {
		m.Pc = Fold(pc)
	}
	return wrote
}

// next instruction of a guest, or how it ends.
func next(m *api.Machine) (api.Instr, int) {
	at, end := meant(m, m.Pc, leastPage)
	if end != api.Going {
		return api.Instr{}, end
	}
	i, e := Decode(m.Mem[at])
	if e != api.OK {
		return api.Instr{}, api.BadCode
	}
	return i, api.Going
}

// meant: the word of memory that an address means, if the table tells at least such a word for its page; or how the guest ends.
func meant(m *api.Machine, address, least int) (int, int) {
	if outside(0, api.Words-1)(address) {
		return 0, api.BadAt
	}
	if m.Table == none {
		return address, api.Going
	}
	told := m.Mem[m.Table*api.PageWords+address/api.PageWords]
	if outside(least, mostPage)(told) {
		return 0, api.BadPage
	}
	return told%api.Pages*api.PageWords + address%api.PageWords, api.Going
}

// load the word at B and N.
func load(m *api.Machine, i api.Instr) {
	at, end := meant(m, Fold(m.Regs[i.B]+i.N), leastPage)
	if end != api.Going {
		m.End = end
		return
	}
	m.Regs[i.A] = m.Mem[at]
}

// store the word at B and N: which word of memory that is, whatever its address was.
func store(m *api.Machine, i api.Instr) int {
	at, end := meant(m, Fold(m.Regs[i.B]+i.N), leastToWrite)
	if end != api.Going {
		m.End = end
		return none
	}
	m.Mem[at] = m.Regs[i.A]
	return at
}

// jumps: does an operator go on elsewhere, with such a word?
func jumps(op, word int) bool {
	switch op {
	case api.Jz:
		return word == 0
	case api.Jn:
		return word < 0
	}
	return true
}

// in: what a port tells; those that are only told something are none here.
func in(m *api.Machine, i api.Instr, value int) {
	switch {
	case isOfWorld(i.N):
		m.Regs[i.A] = value
	case i.N == api.State:
		m.Regs[i.A] = m.Ready
	default:
		m.End = api.BadAt
	}
}

// isOfWorld: does the world tell what In is told by this port?
func isOfWorld(port int) bool {
	return port == api.Clock || port == api.Key
}

// out: what a port is told; those that only tell something are none here.
func out(m *api.Machine, i api.Instr) {
	switch i.N {
	case api.Console:
		if len(m.Out) < api.MaxOut {
			m.Out = append(m.Out, m.Regs[i.A])
		}
	case api.Disk:
		askBlock(m, m.Regs[i.A])
	default:
		m.End = api.BadAt
	}
}

// askBlock for a page: while one is wanted no other one is, but what is no page ends the guest even then.
func askBlock(m *api.Machine, page int) {
	if outside(0, api.Pages-1)(page) {
		m.End = api.BadAt
		return
	}
	if m.Want == none {
		m.Want = page
		m.Ready = 0
	}
}

// setTable of pages, or none.
func setTable(m *api.Machine, page int) {
	if outside(none, api.Pages-1)(page) {
		m.End = api.BadAt
		return
	}
	m.Table = page
}
