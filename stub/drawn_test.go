package stub_test

import (
	"fmt"
	"slices"
	"strconv"
	"testing"

	"hourglass/api"
	"hourglass/cpu"
	"hourglass/run"
	"hourglass/stub"
)

// model of a debugger: all guests of a tape, and which word the step to each one wrote.
type model struct {
	guests []api.Machine
	wrote  []int
}

// modelOf a tape, by steps alone.
func modelOf(t *testing.T, tape api.Tape) model {
	t.Helper()
	events, e := run.Check(tape)
	if e != api.OK {
		t.Fatal(e)
	}
	g, e := cpu.New(tape.Image)
	if e != api.OK {
		t.Fatal(e)
	}
	m := model{[]api.Machine{g}, []int{-1}}
	for place := range tape.Count {
		irq, block, value := run.Told(events, place)
		g, wrote, e := cpu.Step(m.guests[place], irq, block, value)
		if e != api.OK {
			t.Fatal(e)
		}
		m.guests, m.wrote = append(m.guests, g), append(m.wrote, wrote)
	}
	return m
}

// walk from a place: `c` or `bc`, as the chapter tells them.
func (m model) walk(s api.Session, back bool) int {
	if back {
		for place := s.At - 1; place >= 0; place-- {
			if slices.Contains(s.Breaks, m.guests[place].Pc) || slices.Contains(s.Watches, m.wrote[place+1]) {
				return place
			}
		}
		return 0
	}
	for place := s.At + 1; place < len(m.guests); place++ {
		if slices.Contains(s.Breaks, m.guests[place].Pc) || slices.Contains(s.Watches, m.wrote[place]) {
			return place
		}
	}
	return len(m.guests) - 1
}

// marked: the stops with a place, or without it; the answer.
func marked(stops []int, add bool, place int) ([]int, string) {
	if place >= api.Words {
		return stops, "E02"
	}
	isIn := slices.Contains(stops, place)
	if !add {
		return slices.DeleteFunc(slices.Clone(stops), func(w int) bool { return w == place }), "OK"
	}
	if isIn {
		return stops, "OK"
	}
	if len(stops) >= 20 {
		return stops, "E03"
	}
	l := append(slices.Clone(stops), place)
	slices.Sort(l)
	return l, "OK"
}

// stop of a session at a place.
func (m model) stop(s api.Session, place int) (api.Session, string) {
	s.At = place
	return s, fmt.Sprintf("T%d:%d", place, m.guests[place].End)
}

// command that looks drawn: its text, the session then, and what is told.
func (m model) command(d *die, s api.Session) (string, api.Session, string) {
	last, g := len(m.guests)-1, m.guests[s.At]
	at, n := d.below(270), d.below(45)
	told := ""
	switch k := d.below(16); k {
	case 0:
		s, told = m.stop(s, s.At)
		return "?", s, told
	case 1, 2:
		s, told = m.stop(s, min(s.At+1, last))
		return "s", s, told
	case 3, 4:
		s, told = m.stop(s, max(s.At-1, 0))
		return "bs", s, told
	case 5, 6, 7:
		s, told = m.stop(s, m.walk(s, false))
		return "c", s, told
	case 8, 9, 10:
		s, told = m.stop(s, m.walk(s, true))
		return "bc", s, told
	case 11:
		return "g", s, listed(append(slices.Clone(g.Regs), g.Pc))
	case 12:
		told = "E02"
		if n >= 1 && n <= 40 && at+n <= api.Words {
			told = listed(g.Mem[at : at+n])
		}
		return "m" + strconv.Itoa(at) + "," + strconv.Itoa(n), s, told
	case 13:
		if d.below(2) == 0 {
			at = d.below(40)
		}
		s.Breaks, told = marked(s.Breaks, n < 30, at)
		return map[bool]string{true: "Z0,", false: "z0,"}[n < 30] + strconv.Itoa(at), s, told
	case 14:
		at = 80 + at%60
		s.Watches, told = marked(s.Watches, n < 30, at)
		return map[bool]string{true: "Z2,", false: "z2,"}[n < 30] + strconv.Itoa(at), s, told
	}
	return []string{"M1,1", "what", "", "Z0,x", "G"}[at%5], s, []string{"E01", "", "", "E02", "E01"}[at%5]
}

// drawnImage: a guest that does a bit of all, and comes back to its beginning.
func drawnImage(d *die) []int {
	words := image(ei(1))
	for range 10 + d.below(30) {
		i := api.Instr{Op: 1 + d.below(15), A: d.below(4), B: d.below(4)}
		switch i.Op {
		case api.Add, api.Sub:
			i.N = d.below(4)
		case api.Ld, api.St:
			i.B, i.N = 7, 80+d.below(60)
		case api.Jz, api.Jn, api.Jmp:
			i.N = d.below(8) - 2
		case api.In:
			i.N = d.below(3)
		case api.Out:
			i.A, i.N = 5+d.below(2), 3+d.below(2)
		case api.Ei:
			i.N = d.below(2)
		case api.Map:
			i = li(5+d.below(2), d.below(api.Pages))
		default:
			i.N = d.below(30) - 10
		}
		words = append(words, image(i)...)
	}
	return append(words, image(jmp(-len(words)))...)
}

// drawnTape of a guest in a world with interrupts, words and blocks; at times it is told to be longer than the guest goes on.
func drawnTape(t *testing.T, d *die) api.Tape {
	t.Helper()
	var w api.World
	for range d.below(20) {
		w.Irqs = append(w.Irqs, d.below(200))
		w.Values = append(w.Values, d.below(99)-40)
	}
	for range d.below(8) {
		b := make([]int, api.PageWords)
		copy(b, drawnImage(d)[:d.below(11)])
		w.Blocks = append(w.Blocks, b)
		w.Delays = append(w.Delays, d.below(5))
	}
	tape := recorded(t, drawnImage(d), w, d.below(250))
	if d.below(4) == 0 {
		tape.Count += d.below(20)
	}
	return tape
}

// TestDebugsDrawn: drawn sessions of drawn tapes, a command after the other, held against the model.
func TestDebugsDrawn(t *testing.T) { // P7.3, P7.4, P7.5
	d := die(72)
	walked, within, ended := 0, 0, 0
	for range 150 {
		tape := drawnTape(t, &d)
		m := modelOf(t, tape)
		u := api.Setup{Frames: 160, Every: 1 + d.below(60), Keep: 1 + d.below(api.MaxPoints)}
		s := api.Session{At: d.below(tape.Count + 1), Breaks: []int{d.below(20)}, Watches: []int{80 + d.below(60)}}
		for range 30 {
			command, then, want := m.command(&d, s)
			got, p, e := stub.Answer(u, tape, s, packet(command))
			if e != api.OK || p != "+"+packet(want) || !sameSession(got, then) {
				t.Fatalf("%q in %v of %v: %v, %q, %v; want %v, %q, OK", command, s, tape, got, p, e, then, want)
			}
			if command == "c" || command == "bc" {
				walked++
				if then.At > 0 && then.At < tape.Count {
					within++
				}
			}
			s = got
			if m.guests[s.At].End != api.Going {
				ended++
			}
		}
	}
	if walked < 1000 || within < 300 || ended < 100 {
		t.Errorf("only %d walks, %d of them that stopped within, %d times a guest that has ended", walked, within, ended)
	}
}

// TestDebugsTheSameBySetups: checkpoints are to be seen in no answer.
func TestDebugsTheSameBySetups(t *testing.T) { // P7.2
	d := die(73)
	for range 20 {
		tape := drawnTape(t, &d)
		m := modelOf(t, tape)
		s := api.Session{At: d.below(tape.Count + 1), Breaks: []int{5, 9}, Watches: upTo(100)[90:]}
		for _, every := range []int{1, 2, 17, api.MaxCount} {
			for _, keep := range []int{1, 2, api.MaxPoints} {
				u := api.Setup{Frames: 16 * (keep + 2), Every: every, Keep: keep}
				for _, command := range []string{"c", "bc", "s", "bs"} {
					at := map[string]int{"c": m.walk(s, false), "bc": m.walk(s, true), "s": min(s.At+1, tape.Count), "bs": max(s.At-1, 0)}[command]
					want, told := m.stop(s, at)
					got, p, e := stub.Answer(u, tape, s, packet(command))
					if e != api.OK || p != "+"+packet(told) || !sameSession(got, want) {
						t.Fatalf("%q with %v in %v of %v: %v, %q, %v; want %v, %q, OK", command, u, s, tape, got, p, e, want, told)
					}
				}
			}
		}
	}
}
