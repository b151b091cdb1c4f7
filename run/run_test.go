package run_test

import (
	"bytes"
	"math"
	"reflect"
	"slices"
	"testing"

	"hourglass/api"
	"hourglass/cpu"
	"hourglass/evlog"
	"hourglass/run"
)

// far: numbers that are far outside of all bounds.
var far = []int{math.MinInt, math.MinInt + 1, math.MaxInt - 1, math.MaxInt}

// noWords: numbers that are no word, the nearest and the farthest ones.
var noWords = append([]int{api.MaxWord + 1, -api.MaxWord - 1}, far...)

// noCounts: numbers that are no count of a run, the nearest and the farthest ones.
var noCounts = append([]int{-1, api.MaxCount + 1}, far...)

// die: numbers that look drawn, the same each time.
type die uint64

func (d *die) below(n int) int {
	*d = *d*6364136223846793005 + 1442695040888963407
	return int(uint64(*d>>33) % uint64(n))
}

// image of instructions, from word 0 on; what is none ends in a panic, so that no test goes on with it.
func image(l ...api.Instr) []int {
	var words []int
	for _, i := range l {
		w, e := cpu.Encode(i)
		if e != api.OK {
			panic(e)
		}
		words = append(words, w)
	}
	return words
}

// Some instructions by short names.
func nop() api.Instr             { return api.Instr{Op: api.Nop} }
func li(a, n int) api.Instr      { return api.Instr{Op: api.Li, A: a, N: n} }
func jmp(n int) api.Instr        { return api.Instr{Op: api.Jmp, N: n} }
func ask(a, port int) api.Instr  { return api.Instr{Op: api.In, A: a, N: port} }
func tell(a, port int) api.Instr { return api.Instr{Op: api.Out, A: a, N: port} }
func ei(n int) api.Instr         { return api.Instr{Op: api.Ei, N: n} }

// Events by short names.
func irq(at int) api.Event         { return api.Event{At: at, Kind: api.Irq} }
func value(at, word int) api.Event { return api.Event{At: at, Kind: api.Value, Data: []int{word}} }
func block(at int, words []int) api.Event {
	return api.Event{At: at, Kind: api.Block, Data: words}
}

// page of words, each of them another one.
func page(first int) []int {
	l := make([]int, api.PageWords)
	for i := range l {
		l[i] = first + i
	}
	return l
}

// blank: a page of words that are 0.
func blank() []int { return make([]int, api.PageWords) }

// counts that rise, from first on.
func counts(first, n int) []int {
	l := make([]int, n)
	for i := range l {
		l[i] = first + i
	}
	return l
}

// encoded events that may be.
func encoded(l ...api.Event) []byte {
	b, e := evlog.Encode(l)
	if e != api.OK {
		panic(e)
	}
	return b
}

// plain: the same guest without a nil list, as a list without elements may be nil or not.
func plain(m api.Machine) api.Machine {
	m.Regs, m.Mem, m.Out = append([]int{}, m.Regs...), append([]int{}, m.Mem...), append([]int{}, m.Out...)
	return m
}

func sameGuest(m, n api.Machine) bool { return reflect.DeepEqual(plain(m), plain(n)) }

func noGuest(m api.Machine) bool { return sameGuest(m, api.Machine{}) }

func sameTape(t, u api.Tape) bool {
	return slices.Equal(t.Image, u.Image) && bytes.Equal(t.Events, u.Events) && t.Count == u.Count
}

// sameEvents: a list without elements may be nil or not.
func sameEvents(l, m []api.Event) bool {
	return slices.EqualFunc(l, m, func(x, y api.Event) bool {
		return x.At == y.At && x.Kind == y.Kind && slices.Equal(x.Data, y.Data)
	})
}

// recorded: a tape that has the image, and the guest in the end, whose Count is the tape's.
func recorded(t *testing.T, what string, words []int, w api.World, n int) (api.Tape, api.Machine) {
	t.Helper()
	tape, m, e := run.Record(words, w, n)
	if e != api.OK {
		t.Fatalf("%s: %v", what, e)
	}
	if !slices.Equal(tape.Image, words) {
		t.Errorf("%s: the image is %v; want %v", what, tape.Image, words)
	}
	if tape.Count != m.Count {
		t.Errorf("%s: the tape has %d instructions, the guest %d", what, tape.Count, m.Count)
	}
	if e := cpu.CheckMachine(m); e != api.OK {
		t.Errorf("%s: the guest may not be: %v", what, e)
	}
	return tape, m
}

// wantEvents: a guest is recorded for so many instructions, with these events.
func wantEvents(t *testing.T, what string, words []int, w api.World, n, count int, want ...api.Event) (api.Tape, api.Machine) {
	t.Helper()
	tape, m := recorded(t, what, words, w, n)
	if tape.Count != count {
		t.Errorf("%s: %d instructions; want %d", what, tape.Count, count)
	}
	if !bytes.Equal(tape.Events, encoded(want...)) {
		l, e := evlog.Decode(tape.Events)
		t.Errorf("%s: %v, %v; want %v", what, l, e, want)
	}
	return tape, m
}

// wantNoTape: Record refuses so, and tells nothing else.
func wantNoTape(t *testing.T, what string, words []int, w api.World, n int, want api.Errno) {
	t.Helper()
	tape, m, e := run.Record(words, w, n)
	if e != want || !sameTape(tape, api.Tape{}) || !noGuest(m) {
		t.Errorf("%s: %v, %v, %v; want nothing, %v", what, tape, m, e, want)
	}
}

// wantTapeRefused: Check and Replay refuse a tape so, and tell nothing else.
func wantTapeRefused(t *testing.T, what string, tape api.Tape, want api.Errno) {
	t.Helper()
	if l, e := run.Check(tape); len(l) != 0 || e != want {
		t.Errorf("%s: Check: %v, %v; want nothing, %v", what, l, e, want)
	}
	for _, n := range append([]int{0, 1}, noCounts...) {
		if m, e := run.Replay(tape, n); !noGuest(m) || e != want {
			t.Errorf("%s: Replay to %d: %v, %v; want nothing, %v", what, n, m, e, want)
		}
	}
}

// wantGuest: a tape leads to this guest.
func wantGuest(t *testing.T, what string, tape api.Tape, n int, want api.Machine) {
	t.Helper()
	if m, e := run.Replay(tape, n); e != api.OK || !sameGuest(m, want) {
		t.Errorf("%s, to %d: %v, %v; want %v, OK", what, n, m, e, want)
	}
}
