package deck_test

import (
	"math"
	"reflect"
	"testing"

	"hourglass/api"
	"hourglass/cpu"
	"hourglass/deck"
	"hourglass/evlog"
	"hourglass/run"
)

// far: numbers that are far outside of all bounds.
var far = []int{math.MinInt, math.MinInt + 1, -1 << 32, 1 << 32, math.MaxInt - 1, math.MaxInt}

// die: numbers that look drawn, the same each time.
type die uint64

func (d *die) below(n int) int {
	*d = *d*6364136223846793005 + 1442695040888963407
	return int(uint64(*d>>33) % uint64(n))
}

// image of instructions, from word 0 on; what is none ends in a panic, so that no test goes on with it.
func image(l ...api.Instr) []int {
	var words []int
	for _, i := range l {
		w, e := cpu.Encode(i)
		if e != api.OK {
			panic(e)
		}
		words = append(words, w)
	}
	return words
}

// Some instructions by short names.
func nop() api.Instr             { return api.Instr{Op: api.Nop} }
func li(a, n int) api.Instr      { return api.Instr{Op: api.Li, A: a, N: n} }
func addi(a, b, n int) api.Instr { return api.Instr{Op: api.Addi, A: a, B: b, N: n} }
func st(a, b, n int) api.Instr   { return api.Instr{Op: api.St, A: a, B: b, N: n} }
func jmp(n int) api.Instr        { return api.Instr{Op: api.Jmp, N: n} }
func ask(a, port int) api.Instr  { return api.Instr{Op: api.In, A: a, N: port} }
func tell(a, port int) api.Instr { return api.Instr{Op: api.Out, A: a, N: port} }

// encoded events that may be.
func encoded(l ...api.Event) []byte {
	b, e := evlog.Encode(l)
	if e != api.OK {
		panic(e)
	}
	return b
}

// always: a guest that does nothing, again and again.
func always() []int { return image(nop(), jmp(-1)) }

// writer: a guest that has words in all its pages, and writes to one after the other, and to page 0 each time, always another word.
func writer() []int {
	words := image(addi(3, 3, 1), addi(1, 1, 16), addi(2, 1, -api.Words), api.Instr{Op: api.Jn, A: 2, N: 2}, addi(1, 2, 16),
		st(3, 1, 0), st(3, 7, 15), jmp(-7))
	for at := len(words); at < api.Words; at++ {
		words = append(words, -at)
	}
	return words
}

// drawnImage: a guest that does a bit of all, and comes back to its beginning.
func drawnImage(d *die) []int {
	words := image(api.Instr{Op: api.Ei, N: 1})
	for range 10 + d.below(40) {
		i := api.Instr{Op: 1 + d.below(15), A: d.below(4), B: d.below(4)}
		switch i.Op {
		case api.Add, api.Sub:
			i.N = d.below(4)
		case api.Ld, api.St:
			i.B, i.N = 7, 80+d.below(170)
		case api.Jz, api.Jn, api.Jmp:
			i.N = d.below(8) - 2
		case api.In:
			i.N = d.below(3)
		case api.Out:
			i.A, i.N = 5+d.below(2), 3+d.below(2)
		case api.Ei:
			i.N = d.below(2)
		case api.Map:
			i = li(5+d.below(2), d.below(api.Pages))
		default:
			i.N = d.below(30) - 10
		}
		words = append(words, image(i)...)
	}
	return append(words, image(jmp(-len(words)))...)
}

// drawnWorld: interrupts, words and blocks.
func drawnWorld(d *die) api.World {
	var w api.World
	for range d.below(30) {
		w.Irqs = append(w.Irqs, d.below(300))
	}
	for range d.below(20) {
		w.Values = append(w.Values, d.below(99)-40)
	}
	for range d.below(12) {
		b := make([]int, api.PageWords)
		copy(b, drawnImage(d)[:d.below(11)])
		w.Blocks = append(w.Blocks, b)
		w.Delays = append(w.Delays, max(0, d.below(9)-4))
	}
	return w
}

// drawnTape: at times one that is told to be longer than the guest goes on.
func drawnTape(t *testing.T, d *die) api.Tape {
	t.Helper()
	tape, _, e := run.Record(drawnImage(d), drawnWorld(d), d.below(350))
	if e != api.OK {
		t.Fatal(e)
	}
	if d.below(4) == 0 {
		tape.Count += d.below(40)
	}
	return tape
}

// plain: the same guest without a nil list, as a list without elements may be nil or not.
func plain(m api.Machine) api.Machine {
	m.Regs, m.Mem, m.Out = append([]int{}, m.Regs...), append([]int{}, m.Mem...), append([]int{}, m.Out...)
	return m
}

func sameGuest(m, n api.Machine) bool { return reflect.DeepEqual(plain(m), plain(n)) }

// enough frames, so that there is room whatever the guest writes.
func enough(keep int) int { return 16 * (keep + 2) }

// wantGuests: what Seek told are the guests that Replay tells.
func wantGuests(t *testing.T, what string, tape api.Tape, l []int, got []api.Machine, e api.Errno) {
	t.Helper()
	if e != api.OK || len(got) != len(l) {
		t.Errorf("%s: %d guests, %v; want %d, OK", what, len(got), e, len(l))
		return
	}
	for i, n := range l {
		want, e := run.Replay(tape, n)
		if e != api.OK || !sameGuest(got[i], want) {
			t.Fatalf("%s: at %d: %v; want %v, %v", what, n, got[i], want, e)
		}
	}
}

// wantRefused: what Seek told is this error alone.
func wantRefused(t *testing.T, what string, got []api.Machine, e, want api.Errno) {
	t.Helper()
	if e != want || len(got) != 0 {
		t.Errorf("%s: %d guests, %v; want none, %v", what, len(got), e, want)
	}
}

// wantSetup: Check answers so, and Seek refuses what it refuses, ahead of all else.
func wantSetup(t *testing.T, s api.Setup, want api.Errno) {
	t.Helper()
	if e := deck.Check(s); e != want {
		t.Errorf("%v: %v; want %v", s, e, want)
	}
	if want == api.OK {
		return
	}
	for _, tape := range []api.Tape{{Events: encoded(), Count: 5}, {}} {
		got, e := deck.Seek(s, tape, []int{0})
		wantRefused(t, "a setup", got, e, want)
		got, e = deck.Seek(s, tape, []int{-1})
		wantRefused(t, "a setup, no count", got, e, want)
	}
}

func TestCheck(t *testing.T) { // P6.1
	good := api.Setup{Frames: 48, Every: 7, Keep: 1}
	for _, n := range append(far, -1, 0, 1, 2, 8, 9, 199, 200, 201, 2999, 3000, 3001) {
		s := good
		s.Frames = n
		wantSetup(t, s, refusedOutside(n, 0, 200))
		s = good
		s.Every = n
		wantSetup(t, s, refusedOutside(n, 1, 3000))
		s = good
		s.Keep = n
		wantSetup(t, s, refusedOutside(n, 1, 8))
	}
	wantSetup(t, api.Setup{}, api.ErrRange)
	wantSetup(t, api.Setup{Every: 1, Keep: 1}, api.OK)
	wantSetup(t, api.Setup{Frames: api.MaxFrames, Every: api.MaxCount, Keep: api.MaxPoints}, api.OK)
	wantSetup(t, api.Setup{Frames: -1, Every: -1, Keep: -1}, api.ErrRange)
}

func refusedOutside(n, least, most int) api.Errno {
	if n < least || n > most {
		return api.ErrRange
	}
	return api.OK
}
