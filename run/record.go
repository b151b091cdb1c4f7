package run

import (
	"slices"

	"hourglass/api"
	"hourglass/cpu"
	"hourglass/evlog"
)

// none: a guest wants no block; none is to come.
const none = -1

// Record a guest with an image in a world, for so many instructions at most: the tape, and the guest in the end.
func Record(image []int, w api.World, n int) (api.Tape, api.Machine, api.Errno) {
	m, e := cpu.New(image)
	if e != api.OK {
		return api.Tape{}, api.Machine{}, e
	}
	if e := CheckWorld(w); e != api.OK {
		return api.Tape{}, api.Machine{}, e
	}
	if isNoCount()(n) {
		return api.Tape{}, api.Machine{}, api.ErrRange
	}
	r := newRecorder(w)
	for m.End == api.Going && m.Count < n {
		if m, e = r.step(m); e != api.OK {
			return api.Tape{}, api.Machine{}, e
		}
	}
	events, e := evlog.Encode(r.events)
	if e != api.OK {
		return api.Tape{}, api.Machine{}, e
	}
	return api.Tape{Image: slices.Clone(image), Events: events, Count: m.Count}, m, api.OK
}

// recorder of what a world does to a guest, with what the world has left.
type recorder struct {
	irqs   []int
	value  func() int
	block  func() []int
	delay  func() int
	due    int // ahead of the instruction with this count a block comes; none: of no one
	events []api.Event
}

// newRecorder in a world that may be.
func newRecorder(w api.World) *recorder {
	return &recorder{
		irqs:  w.Irqs,
		value: nextOf(w.Values, 0),
		block: nextOf(w.Blocks, make([]int, api.PageWords)),
		delay: nextOf(w.Delays, 0),
		due:   none,
	}
}

// nextOf a list tells one after the other; behind the last one, what there is then.
func nextOf[T any](l []T, behind T) func() T {
	return func() T {
		if len(l) == 0 {
			return behind
		}
		first := l[0]
		l = l[1:]
		return first
	}
}

// step of a guest that goes on.
func (r *recorder) step(m api.Machine) (api.Machine, api.Errno) {
	at := m.Count
	irq, block := r.ahead(at)
	value := 0
	if cpu.Asks(m, irq, block) {
		value = r.value()
		r.note(at, api.Value, value)
	}
	// What comes is not wanted any more: then it is another one that is wanted behind the instruction.
	wanted := m.Want != none && block == nil
	m, _, e := cpu.Step(m, irq, block, value)
	if e == api.OK && m.Want != none && !wanted {
		r.due = m.Count + r.delay()
	}
	return m, e
}

// ahead of an instruction: does an interrupt come, and which block?
func (r *recorder) ahead(at int) (bool, []int) {
	irq := slices.Contains(r.irqs, at)
	if irq {
		r.note(at, api.Irq)
	}
	if r.due != at {
		return irq, nil
	}
	block := r.block()
	r.note(at, api.Block, block...)
	return irq, block
}

// note an event.
func (r *recorder) note(at, kind int, data ...int) {
	r.events = append(r.events, api.Event{At: at, Kind: kind, Data: data})
}
