package deck

import (
	"hourglass/api"
	"hourglass/cpu"
	"hourglass/frames"
	"hourglass/space"
)

// none: no word was written.
const none = -1

// point of a tape: the guest behind so many steps. Its memory is in a space; the guest itself has none.
type point struct {
	place int
	guest api.Machine
	mem   *space.Space
	wrote int // the word that the step to this place wrote, or none
}

// beginning of a tape with such an image, on a host.
func beginning(h *frames.Host, image []int) (point, api.Errno) {
	m, e := cpu.New(image)
	if e != api.OK {
		return point{}, e
	}
	p := point{mem: space.Blank(h), wrote: none}
	if e := p.become(m); e != api.OK {
		return point{}, e
	}
	return p, api.OK
}

// become another guest, at the same place.
func (p *point) become(m api.Machine) api.Errno {
	if e := p.mem.SetAll(m.Mem); e != api.OK {
		return e
	}
	m.Mem = nil
	p.guest = m
	return api.OK
}

// whole guest, with its memory. The point keeps its other lists: who changes them takes a copy.
func (p point) whole() api.Machine {
	m := p.guest
	m.Mem = p.mem.Words()
	return m
}

// fork of a point: what is written to the one the other one does not see.
func (p point) fork() (point, api.Errno) {
	mem, e := p.mem.Fork()
	if e != api.OK {
		return point{}, e
	}
	p.mem = mem
	return p, api.OK
}
