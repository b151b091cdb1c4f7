package deck_test

import (
	"bytes"
	"slices"
	"testing"

	"hourglass/api"
	"hourglass/deck"
)

// withRoom: the same elements, with spare room that is not 0.
func withRoom[T any](l []T, spare T) []T {
	return append(slices.Clone(l), spare, spare, spare)[:len(l)]
}

// roomyTape: a tape of a guest that tells, each list of which has spare room.
func roomyTape(t *testing.T) api.Tape {
	words := image(li(1, 4), tell(1, api.Disk), ask(2, api.Key), tell(2, api.Console), st(2, 7, 100), jmp(-4))
	w := api.World{Values: []int{7, 8, 9, 10}, Blocks: [][]int{slices.Repeat([]int{3}, api.PageWords)}}
	tape := recorded(t, words, w, 30)
	return api.Tape{Image: withRoom(tape.Image, 98), Events: withRoom(tape.Events, 99), Count: tape.Count}
}

// listsOf guests, with their spare room.
func listsOf(guests []api.Machine) [][]int {
	var l [][]int
	for _, m := range guests {
		l = append(l, m.Regs[:cap(m.Regs)], m.Mem[:cap(m.Mem)], m.Out[:cap(m.Out)])
	}
	return l
}

// scribble writes a number of its own into each list, spare room too, and tells whether each one keeps it.
func scribble(l [][]int) bool {
	for i, x := range l {
		for k := range x {
			x[k] = -1000 - i
		}
	}
	for i, x := range l {
		if slices.ContainsFunc(x, func(w int) bool { return w != -1000-i }) {
			return false
		}
	}
	return true
}

// TestSeekMemory: what is handed in stays, and what is answered is apart, even where the same count is asked twice.
func TestSeekMemory(t *testing.T) { // P6.2
	tape, was := roomyTape(t), roomyTape(t)
	l := withRoom([]int{0, 30, 12, 12, 30, 0, 7}, -5)
	stays := func(what string) {
		t.Helper()
		image, events := tape.Image[:cap(tape.Image)], tape.Events[:cap(tape.Events)]
		if !slices.Equal(image, was.Image[:cap(was.Image)]) || !bytes.Equal(events, was.Events[:cap(was.Events)]) {
			t.Errorf("%s: the tape is changed: %v", what, tape)
		}
		if !slices.Equal(l[:cap(l)][:10], []int{0, 30, 12, 12, 30, 0, 7, -5, -5, -5}) {
			t.Errorf("%s: the counts are changed: %v", what, l)
		}
	}
	s := api.Setup{Frames: 64, Every: 5, Keep: 2}
	got, e := deck.Seek(s, tape, l)
	other, _ := deck.Seek(s, tape, l)
	stays("Seek")
	wantGuests(t, "Seek", tape, l, got, e)
	if !scribble(listsOf(got)) {
		t.Error("two lists of one answer share memory")
	}
	clear(got[:cap(got)])
	stays("what was answered is written")
	wantGuests(t, "the other answer", tape, l, other, api.OK)
	deck.Seek(api.Setup{Every: 1, Keep: 1}, tape, l)
	deck.Seek(s, tape, append(l, 31))
	l[:cap(l)][len(l)] = -5
	deck.Seek(s, api.Tape{Image: tape.Image, Events: tape.Events, Count: 2}, l)
	stays("what is refused")
}
