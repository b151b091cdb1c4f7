package run_test

import (
	"bytes"
	"slices"
	"testing"

	"hourglass/api"
	"hourglass/run"
)

// withRoom: the same elements, with spare room that is not 0.
func withRoom[T any](l []T, spare T) []T {
	return append(slices.Clone(l), spare, spare, spare)[:len(l)]
}

// roomyWorld: a world each list of which has spare room.
func roomyWorld() api.World {
	return api.World{
		Irqs:   withRoom([]int{3, 9}, 91),
		Values: withRoom([]int{7, 8}, 92),
		Blocks: withRoom([][]int{withRoom(page(10), 93), withRoom(page(20), 94)}, []int{95}),
		Delays: withRoom([]int{1, 0}, 96),
	}
}

// busyImage: a guest that asks for words and blocks, tells, and writes.
func busyImage() []int {
	return withRoom(image(li(1, 5), tell(1, api.Disk), ask(2, api.Clock), tell(2, api.Console),
		api.Instr{Op: api.St, A: 2, B: 7, N: 100}, jmp(-4)), 97)
}

// wholeWorld: with spare room, as lists one after the other.
func wholeWorld(w api.World) [][]int {
	l := [][]int{w.Irqs[:cap(w.Irqs)], w.Values[:cap(w.Values)], w.Delays[:cap(w.Delays)]}
	for _, b := range w.Blocks[:cap(w.Blocks)] {
		l = append(l, b[:cap(b)])
	}
	return l
}

func sameLists(l, m [][]int) bool { return slices.EqualFunc(l, m, slices.Equal[[]int]) }

// copied lists, in memory of their own.
func copied(l [][]int) [][]int {
	m := slices.Clone(l)
	for i := range m {
		m[i] = slices.Clone(m[i])
	}
	return m
}

// scribble writes a number of its own into each list, spare room too, and tells whether each one keeps it.
func scribble(l ...[]int) bool {
	for i, x := range l {
		for k := range x[:cap(x)] {
			x[:cap(x)][k] = -1000 - i
		}
	}
	for i, x := range l {
		if slices.ContainsFunc(x[:cap(x)], func(w int) bool { return w != -1000-i }) {
			return false
		}
	}
	return true
}

func spoil(b []byte) {
	for i := range b[:cap(b)] {
		b[:cap(b)][i] = 77
	}
}

// TestRecordMemory: what is handed in stays, and what is answered is apart.
func TestRecordMemory(t *testing.T) { // P5.3
	words, w := busyImage(), roomyWorld()
	wasWords, wasWorld := slices.Clone(words[:cap(words)]), copied(wholeWorld(w))
	stays := func(what string) {
		t.Helper()
		if !slices.Equal(words[:cap(words)], wasWords) || !sameLists(wholeWorld(w), wasWorld) {
			t.Errorf("%s: %v, %v", what, words[:cap(words)], w)
		}
	}
	run.CheckWorld(w)
	stays("CheckWorld")
	tape, m := recorded(t, "busy", words, w, 40)
	stays("Record")
	other, o := recorded(t, "busy", words, w, 40)
	if !scribble(tape.Image, m.Regs, m.Mem, m.Out) {
		t.Error("two lists of one answer share memory")
	}
	spoil(tape.Events)
	stays("what was answered is written")
	if !slices.Equal(other.Image, words) || o.Out[0] != 7 || slices.Contains(other.Events, 77) {
		t.Errorf("answers share memory: %v, %v", other, o)
	}
	again, _ := recorded(t, "busy", words, w, 40)
	if !sameTape(again, other) {
		t.Errorf("%v; it was %v", again, other)
	}
	run.Record(words, w, -1)
	run.Record(append(words, noWords[0])[:len(words)], w, api.MaxCount)
	wasWords[len(words)] = noWords[0]
	stays("what is refused")
	clear(words)
	clear(w.Blocks[0])
	clear(w.Irqs)
	if !slices.Equal(other.Image, busyImage()) {
		t.Errorf("what was handed in is kept: %v", other)
	}
}

// roomyTape: a tape each list of which has spare room.
func roomyTape(t *testing.T) api.Tape {
	tape, _ := recorded(t, "busy", busyImage(), roomyWorld(), 40)
	return api.Tape{Image: withRoom(tape.Image, 98), Events: withRoom(tape.Events, 99), Count: tape.Count}
}

// TestReplayMemory: so it is with tapes.
func TestReplayMemory(t *testing.T) { // P5.4, P5.5
	tape, was := roomyTape(t), roomyTape(t)
	stays := func(what string) {
		t.Helper()
		image, events := tape.Image[:cap(tape.Image)], tape.Events[:cap(tape.Events)]
		if !slices.Equal(image, was.Image[:cap(was.Image)]) || !bytes.Equal(events, was.Events[:cap(was.Events)]) {
			t.Errorf("%s: %v", what, tape)
		}
	}
	l, _ := run.Check(tape)
	k, _ := run.Check(tape)
	stays("Check")
	var data [][]int
	for _, x := range l {
		data = append(data, x.Data)
	}
	if !scribble(data...) {
		t.Error("two lists of one answer share memory")
	}
	clear(l[:cap(l)])
	stays("its answer is written")
	if again, _ := run.Check(tape); !sameEvents(again, k) {
		t.Errorf("%v; it was %v", again, k)
	}
	m, _ := run.Replay(tape, 30)
	n, _ := run.Replay(tape, 30)
	stays("Replay")
	if !scribble(m.Regs, m.Mem, m.Out) {
		t.Error("two lists of one answer share memory")
	}
	stays("its answer is written")
	wantGuest(t, "it is the same again", tape, 30, n)
	first, _ := run.Replay(tape, 0)
	scribble(first.Mem, first.Regs, first.Out)
	stays("the first guest is written")
	run.Replay(tape, 41)
	run.Check(api.Tape{Image: tape.Image, Events: tape.Events, Count: 3})
	stays("what is refused")
}

// TestOneListTwice: lists of a world that are one, or one with the image, do not harm.
func TestOneListTwice(t *testing.T) { // P5.2, P5.3
	one := page(1)
	w := api.World{Irqs: one, Values: one, Delays: one, Blocks: [][]int{one, one}}
	tape, m := recorded(t, "one", one, w, 60)
	apart, n := recorded(t, "apart", page(1), api.World{Irqs: page(1), Values: page(1), Delays: page(1), Blocks: [][]int{page(1), page(1)}}, 60)
	if !sameTape(tape, apart) || !sameGuest(m, n) || !slices.Equal(one, page(1)) {
		t.Errorf("%v, %v; want %v, %v", tape, m, apart, n)
	}
}
