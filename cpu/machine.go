package cpu

import "hourglass/api"

// none: the page of a guest that has no table, or wants no block; the word that was written, if none was.
const none = -1

// CheckMachine: may a guest be?
func CheckMachine(m api.Machine) api.Errno {
	noPage := outside(none, api.Pages-1)
	switch {
	case len(m.Regs) != api.Regs, len(m.Mem) != api.Words, len(m.Out) > api.MaxOut:
		return api.ErrState
	case haveNoWord(m.Regs), haveNoWord(m.Mem), haveNoWord(m.Out):
		return api.ErrState
	case haveNoWord([]int{m.Pc, m.Back}):
		return api.ErrState
	case noPage(m.Table), noPage(m.Want):
		return api.ErrState
	case outside(0, api.MaxWord)(m.Count), outside(api.Going, api.BadPage)(m.End), outside(0, 1)(m.Ready):
		return api.ErrState
	}
	return api.OK
}

// New guest with an image: its first words.
func New(image []int) (api.Machine, api.Errno) {
	if len(image) > api.Words {
		return api.Machine{}, api.ErrSize
	}
	if haveNoWord(image) {
		return api.Machine{}, api.ErrRange
	}
	m := api.Machine{
		Regs:  make([]int, api.Regs),
		Mem:   make([]int, api.Words),
		Table: none,
		Want:  none,
	}
	copy(m.Mem, image)
	return m, api.OK
}

// Copy of a guest, in memory of its own.
func Copy(m api.Machine) api.Machine {
	m.Regs = copyWords(m.Regs)
	m.Mem = copyWords(m.Mem)
	m.Out = copyWords(m.Out)
	return m
}

// copyWords leaves no spare room, so that nothing appended to one answer can be seen in another.
func copyWords(words []int) []int {
	l := make([]int, len(words))
	copy(l, words)
	return l
}
