package deck_test

import (
	"slices"
	"testing"

	"hourglass/api"
	"hourglass/cpu"
	"hourglass/deck"
	"hourglass/run"
)

// laid: a deck with a tape that may be.
func laid(t *testing.T, s api.Setup, tape api.Tape) *deck.Deck {
	t.Helper()
	d, e := deck.NewDeck(s, tape)
	if e != api.OK || d == nil {
		t.Fatalf("%v: %v", s, e)
	}
	return d
}

// wroteAt: the word that the step to a place wrote, by Replay and Step.
func wroteAt(t *testing.T, tape api.Tape, place int) int {
	t.Helper()
	events, e := run.Check(tape)
	if e != api.OK {
		t.Fatal(e)
	}
	if place == 0 {
		return -1
	}
	m, e := run.Replay(tape, place-1)
	if e != api.OK {
		t.Fatal(e)
	}
	irq, block, value := run.Told(events, place-1)
	_, wrote, e := cpu.Step(m, irq, block, value)
	if e != api.OK {
		t.Fatal(e)
	}
	return wrote
}

// wantGuest: this guest is told at a place, and this word.
func wantGuest(t *testing.T, what string, d *deck.Deck, tape api.Tape, place int) {
	t.Helper()
	m, wrote, e := d.Guest(place)
	wantGuests(t, what, tape, []int{place}, []api.Machine{m}, e)
	if want := wroteAt(t, tape, place); wrote != want {
		t.Errorf("%s: the step to %d wrote %d; want %d", what, place, wrote, want)
	}
}

// wantNoGuest: a place is refused so, and nothing else is told.
func wantNoGuest(t *testing.T, what string, d *deck.Deck, place int, want api.Errno) {
	t.Helper()
	m, wrote, e := d.Guest(place)
	if !sameGuest(m, api.Machine{}) || wrote != 0 || e != want {
		t.Errorf("%s: at %d: a guest at %d, %d, %v; want nothing, %v", what, place, m.Count, wrote, e, want)
	}
}

// TestGuestAnyOrder: from wherever a place is sought, the same is told of the step to it.
func TestGuestAnyOrder(t *testing.T) { // P6.2, P7.4
	tape := recorded(t, writer(), api.World{}, 60)
	for _, every := range []int{1, 2, 7, 60, api.MaxCount} {
		d := laid(t, api.Setup{Frames: 64, Every: every, Keep: 2}, tape)
		for _, place := range append(upTo(60), 60, 0, 59, 1, 30, 30, 29, 31, 60, 7, 14, 13, 6, 5) {
			wantGuest(t, "any order", d, tape, place)
		}
		for _, place := range backFrom(60) {
			wantGuest(t, "back", d, tape, place)
		}
	}
}

// TestGuestDrawn: tapes with all that the world does; some of the guests end.
func TestGuestDrawn(t *testing.T) { // P6.2, P7.4
	d := die(63)
	wrote := 0
	for range 220 {
		tape := drawnTape(t, &d)
		deck := laid(t, api.Setup{Frames: 96, Every: 1 + d.below(40), Keep: 1 + d.below(4)}, tape)
		for range d.below(12) {
			place := d.below(tape.Count + 1)
			wantGuest(t, "drawn", deck, tape, place)
			if wroteAt(t, tape, place) >= 0 {
				wrote++
			}
		}
	}
	if wrote < 25 {
		t.Errorf("only %d steps wrote", wrote)
	}
}

// TestGuestEnded: the step that ends a guest writes nothing, nor does one behind it.
func TestGuestEnded(t *testing.T) { // P7.4
	tape := api.Tape{Image: image(nop(), st(7, 7, 90)), Count: 9, Events: encoded()}
	for every := 1; every < 5; every++ {
		d := laid(t, api.Setup{Frames: 64, Every: every, Keep: 2}, tape)
		for _, place := range []int{9, 2, 3, 4, 2, 9, 2, 1, 3, 2} {
			wantGuest(t, "ended", d, tape, place)
		}
	}
}

// TestGuestRefused: what is no place is refused, and the deck goes on as if it had not been asked.
func TestGuestRefused(t *testing.T) { // P6.2
	tape := recorded(t, writer(), api.World{}, 30)
	d := laid(t, api.Setup{Frames: 64, Every: 4, Keep: 2}, tape)
	for _, place := range append(far, -1, 31, api.MaxCount) {
		wantNoGuest(t, "no place", d, place, api.ErrRange)
		wantGuest(t, "behind that", d, tape, 17)
	}
	for _, s := range []api.Setup{{Frames: -1, Every: 4, Keep: 2}, {Frames: 64, Keep: 2}, {Frames: 64, Every: 4, Keep: 9}} {
		if d, e := deck.NewDeck(s, api.Tape{}); d != nil || e != api.ErrRange {
			t.Errorf("%v: %v; want none, %v", s, e, api.ErrRange)
		}
	}
	if d, e := deck.NewDeck(api.Setup{Every: 4, Keep: 2}, api.Tape{}); d != nil || e != api.ErrShort {
		t.Errorf("no tape: %v; want none, %v", e, api.ErrShort)
	}
}

// TestGuestRoom: where there is no room for one place there may be for another one, and what is told there is right.
func TestGuestRoom(t *testing.T) { // P6.3
	words := image(st(1, 7, 40), st(7, 7, 60), addi(1, 1, 1), st(1, 7, 40), st(1, 7, 60), st(1, 7, 80), jmp(-6))
	tape := recorded(t, words, api.World{}, 40)
	full := 0
	for frames := range 9 {
		for _, place := range append([]int{40, 0, 3, 6}, backFrom(40)...) {
			d := laid(t, api.Setup{Frames: frames, Every: 3, Keep: 2}, tape)
			if _, _, e := d.Guest(place); e == api.OK {
				wantGuest(t, "room", d, tape, place)
				continue
			}
			full++
			wantNoGuest(t, "no room", d, place, api.ErrRoom)
			if frames > 3 {
				wantGuest(t, "behind that", d, tape, 1)
				wantGuest(t, "behind that", d, tape, 0)
			}
		}
	}
	if full < 20 {
		t.Errorf("only %d times without room", full)
	}
}

// TestGuestBehindHalfAStep: a step that has room for the block that comes, but not for the word that it writes, leaves nothing of it.
func TestGuestBehindHalfAStep(t *testing.T) { // P6.3
	words := image(li(1, 4), tell(1, api.Disk), st(1, 7, 115))
	w := api.World{Blocks: [][]int{slices.Repeat([]int{3}, api.PageWords)}}
	tape := recorded(t, words, w, 9)
	d := laid(t, api.Setup{Frames: 2, Every: 9, Keep: 1}, tape)
	wantGuest(t, "ahead", d, tape, 2)
	wantNoGuest(t, "no room", d, 3, api.ErrRoom)
	wantGuest(t, "behind that", d, tape, 2)
}

// TestDeckMemory: a deck keeps no list of the tape, and what it tells is apart.
func TestDeckMemory(t *testing.T) { // P6.2
	tape, was := roomyTape(t), roomyTape(t)
	d := laid(t, api.Setup{Frames: 64, Every: 5, Keep: 2}, tape)
	clear(tape.Image)
	clear(tape.Events)
	for _, place := range []int{30, 12, 12, 0, 30} {
		wantGuest(t, "the tape is gone", d, was, place)
		m, _, _ := d.Guest(place)
		n, _, _ := d.Guest(place)
		if !scribble(listsOf([]api.Machine{m, n})) {
			t.Error("two lists share memory")
		}
	}
}
