package deck

import (
	"slices"

	"hourglass/api"
	"hourglass/cpu"
	"hourglass/frames"
	"hourglass/run"
)

// seeker of the guests at places of a tape: where it is now, and from where it can go on.
type seeker struct {
	setup  api.Setup
	events []api.Event
	start  point
	now    point
	kept   []point // checkpoints, in the order in which they were made
}

// newSeeker at the beginning of a tape that may be.
func newSeeker(h *frames.Host, s api.Setup, image []int, events []api.Event) (*seeker, api.Errno) {
	start, e := beginning(h, image)
	if e != api.OK {
		return nil, e
	}
	now, e := start.fork()
	if e != api.OK {
		return nil, e
	}
	return &seeker{setup: s, events: events, start: start, now: now}, api.OK
}

// seek the guest at a place, and the word that the step to it wrote.
func (d *seeker) seek(place int) (api.Machine, int, api.Errno) {
	if e := d.leap(place); e != api.OK {
		return api.Machine{}, 0, e
	}
	for d.now.place < place && d.now.guest.End == api.Going {
		if e := d.step(); e != api.OK {
			return api.Machine{}, 0, e
		}
	}
	// A guest that has ended stays as it is, whatever the tape tells of further steps. These write nothing, and the one that ended it did not either.
	d.now.place = place
	return cpu.Copy(d.now.whole()), d.now.wrote, api.OK
}

// leap to the point from which the fewest steps lead to a place, unless it is the one where the seeker is.
func (d *seeker) leap(place int) api.Errno {
	from := d.nearest(place)
	if from.place <= d.now.place && d.now.place <= place {
		return api.OK
	}
	now, e := from.fork()
	if e != api.OK {
		return e
	}
	d.now.mem.Clear()
	d.now = now
	return api.OK
}

// nearest checkpoint that is not behind a place; if there is none, the beginning.
func (d *seeker) nearest(place int) point {
	best := d.start
	isNearer := func(p point) bool { return best.place < p.place && p.place <= place }
	for _, p := range d.kept {
		if isNearer(p) {
			best = p
		}
	}
	return best
}

// step of the guest, with what the tape tells of it, and the checkpoint that is due then.
func (d *seeker) step() api.Errno {
	irq, block, value := run.Told(d.events, d.now.place)
	m, wrote, e := cpu.Step(d.now.whole(), irq, block, value)
	if e != api.OK {
		return e
	}
	if e := d.now.become(m); e != api.OK {
		return e
	}
	d.now.place++
	d.now.wrote = wrote
	if d.now.place%d.setup.Every != 0 || m.End != api.Going {
		return api.OK
	}
	return d.keep()
}

// keep a checkpoint. The one that was made first goes ahead of that, if there are as many as may be: then its frames are free.
func (d *seeker) keep() api.Errno {
	if len(d.kept) == d.setup.Keep {
		d.kept[0].mem.Clear()
		d.kept = slices.Delete(d.kept, 0, 1)
	}
	p, e := d.now.fork()
	if e != api.OK {
		return e
	}
	d.kept = append(d.kept, p)
	return api.OK
}
