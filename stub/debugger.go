package stub

import (
	"slices"
	"strconv"
	"strings"

	"hourglass/api"
	"hourglass/deck"
)

// Told of a command.
const (
	isDone   = "OK"
	isBarred = "E01" // the guest of a tape is not changed
	isWrong  = "E02"
	isFull   = "E03"
)

// barred: what begins so would change the guest, or go another way than its tape.
const barred = "GMPX"

// debugger of a tape. Commands change its session.
type debugger struct {
	deck    *deck.Deck
	count   int // the last place of the tape
	session api.Session
}

// answer a command: what is told.
func (d *debugger) answer(text string) (string, api.Errno) {
	at := d.session.At
	switch text {
	case "?":
		return d.stop(at)
	case "s":
		return d.stop(min(at+1, d.count))
	case "bs":
		return d.stop(max(at-1, 0))
	case "c":
		return d.goOn()
	case "bc":
		return d.goBack()
	case "g":
		return d.registers()
	}
	if span, isMemory := strings.CutPrefix(text, "m"); isMemory {
		return d.memory(span)
	}
	if strings.IndexAny(text, barred) == 0 {
		return isBarred, api.OK
	}
	return d.setStops(text), api.OK
}

// stop at a place.
func (d *debugger) stop(place int) (string, api.Errno) {
	m, _, e := d.deck.Guest(place)
	if e != api.OK {
		return "", e
	}
	d.session.At = place
	return "T" + strconv.Itoa(place) + ":" + strconv.Itoa(m.End), api.OK
}

// goOn to the next place to stop, or to the last one.
func (d *debugger) goOn() (string, api.Errno) {
	for place := d.session.At + 1; place < d.count; place++ {
		m, wrote, e := d.deck.Guest(place)
		if e != api.OK {
			return "", e
		}
		if d.stopsFor(m.Pc, wrote) {
			return d.stop(place)
		}
	}
	return d.stop(d.count)
}

// goBack to the last place to stop ahead of this one, or to the first place. Guests run only on: so all places are gone through that way, each one once.
func (d *debugger) goBack() (string, api.Errno) {
	found := 0
	m, _, e := d.deck.Guest(0)
	if e != api.OK {
		return "", e
	}
	for place := range d.session.At {
		next, wrote, e := d.deck.Guest(place + 1)
		if e != api.OK {
			return "", e
		}
		if d.stopsFor(m.Pc, wrote) {
			found = place
		}
		m = next
	}
	return d.stop(found)
}

// stopsFor a Pc, or for a word that is written. What is below 0, as where none is written, is among no stops.
func (d *debugger) stopsFor(pc, wrote int) bool {
	return slices.Contains(d.session.Breaks, pc) || slices.Contains(d.session.Watches, wrote)
}

// registers and the Pc.
func (d *debugger) registers() (string, api.Errno) {
	m, _, e := d.deck.Guest(d.session.At)
	if e != api.OK {
		return "", e
	}
	return told(append(m.Regs, m.Pc)), api.OK
}

// memory: the words of a span, as they lie; no table is asked.
func (d *debugger) memory(span string) (string, api.Errno) {
	at, n, ok := spanOf(span)
	if !ok {
		return isWrong, api.OK
	}
	m, _, e := d.deck.Guest(d.session.At)
	if e != api.OK {
		return "", e
	}
	return told(m.Mem[at : at+n]), api.OK
}

// setStops of the session. What asks for something else is told nothing.
func (d *debugger) setStops(text string) string {
	what, place, ok := strings.Cut(text, ",")
	if !ok {
		return ""
	}
	s, answer := &d.session, ""
	switch what {
	case "Z0":
		s.Breaks, answer = with(s.Breaks, place)
	case "z0":
		s.Breaks, answer = without(s.Breaks, place)
	case "Z2":
		s.Watches, answer = with(s.Watches, place)
	case "z2":
		s.Watches, answer = without(s.Watches, place)
	}
	return answer
}

// with a place that is told: the stops then, and the answer.
func with(stops []int, place string) ([]int, string) {
	word, ok := wordOf(place)
	if !ok {
		return stops, isWrong
	}
	i, found := slices.BinarySearch(stops, word)
	if found {
		return stops, isDone
	}
	if len(stops) == mostStops {
		return stops, isFull
	}
	return slices.Insert(stops, i, word), isDone
}

// without a place that is told: so it is, even if it was none of the stops.
func without(stops []int, place string) ([]int, string) {
	word, ok := wordOf(place)
	if !ok {
		return stops, isWrong
	}
	if i, found := slices.BinarySearch(stops, word); found {
		stops = slices.Delete(stops, i, i+1)
	}
	return stops, isDone
}
