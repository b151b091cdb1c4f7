package deck

import (
	"slices"
	"testing"

	"hourglass/api"
	"hourglass/cpu"
	"hourglass/frames"
)

// What Seek tells does not show the checkpoints: these tests look at the seeker itself.

// begun: a seeker at the beginning of a tape without events, and its host.
func begun(t *testing.T, s api.Setup, l ...api.Instr) (*seeker, *frames.Host) {
	t.Helper()
	var words []int
	for _, i := range l {
		w, e := cpu.Encode(i)
		if e != api.OK {
			t.Fatal(e)
		}
		words = append(words, w)
	}
	h, e := frames.NewHost(s.Frames)
	if e != api.OK {
		t.Fatal(e)
	}
	d, e := newSeeker(h, s, words, nil)
	if e != api.OK {
		t.Fatal(e)
	}
	return d, h
}

// counting: a guest that tells in register 1 how often it went round, every other step.
func counting() []api.Instr {
	return []api.Instr{{Op: api.Addi, A: 1, B: 1, N: 1}, {Op: api.Jmp, N: -1}}
}

// wantKept: these are the places of the checkpoints, in the order in which they were made, and each one has the guest of its place.
func wantKept(t *testing.T, d *seeker, places ...int) {
	t.Helper()
	var got []int
	for _, p := range d.kept {
		got = append(got, p.place)
		if p.guest.Count != p.place || p.guest.Regs[1] != (p.place+1)/2 || p.guest.End != api.Going {
			t.Errorf("at %d: %v", p.place, p.guest)
		}
	}
	if !slices.Equal(got, places) {
		t.Errorf("checkpoints at %v; want %v", got, places)
	}
}

// wantLeap: a place is sought from there.
func wantLeap(t *testing.T, d *seeker, place, from int) {
	t.Helper()
	if e := d.leap(place); e != api.OK || d.now.place != from {
		t.Errorf("to %d: from %d, %v; want from %d, OK", place, d.now.place, e, from)
	}
	m, _, e := d.seek(place)
	if e != api.OK || m.Count != place || m.Regs[1] != (place+1)/2 || d.now.place != place {
		t.Errorf("to %d: %v, %v at %d", place, m, e, d.now.place)
	}
}

// TestCheckpoints: behind each Every'th instruction, the last Keep ones that were made; it is the nearest one that is gone back to.
func TestCheckpoints(t *testing.T) { // P6.3
	d, _ := begun(t, api.Setup{Frames: 80, Every: 10, Keep: 3}, counting()...)
	for _, c := range []struct {
		place, from int
		kept        []int
	}{
		{0, 0, nil},
		{9, 0, nil},
		{10, 9, []int{10}},
		{35, 10, []int{10, 20, 30}},
		{35, 35, []int{10, 20, 30}},
		{34, 30, []int{10, 20, 30}},
		{55, 34, []int{30, 40, 50}},
		{42, 40, []int{30, 40, 50}},
		{49, 42, []int{30, 40, 50}},
		{51, 50, []int{30, 40, 50}},
		{50, 50, []int{30, 40, 50}},
		{29, 0, []int{50, 10, 20}},
		{52, 50, []int{50, 10, 20}},
		{48, 20, []int{20, 30, 40}},
		{5, 0, []int{20, 30, 40}},
		{45, 40, []int{20, 30, 40}},
		{60, 45, []int{40, 50, 60}},
		{0, 0, []int{40, 50, 60}},
	} {
		wantLeap(t, d, c.place, c.from)
		wantKept(t, d, c.kept...)
	}
}

// TestEveryAndKeep: how often they are made, and how many are kept.
func TestEveryAndKeep(t *testing.T) { // P6.3
	for every := 1; every <= 41; every++ {
		for keep := 1; keep <= api.MaxPoints; keep++ {
			d, _ := begun(t, api.Setup{Frames: 16 * (keep + 2), Every: every, Keep: keep}, counting()...)
			var want []int
			for place := every; place <= 40; place += every {
				want = append(want, place)
			}
			wantLeap(t, d, 40, 0)
			wantKept(t, d, want[max(0, len(want)-keep):]...)
		}
	}
}

// TestNoCheckpointOfTheEnded: they are made as long as the guest goes on.
func TestNoCheckpointOfTheEnded(t *testing.T) { // P6.3
	for every, want := range map[int][]int{1: {1, 2, 3}, 2: {2}, 3: {3}, 4: nil, 5: nil} {
		nop := api.Instr{Op: api.Nop}
		d, _ := begun(t, api.Setup{Frames: 160, Every: every, Keep: 8}, nop, nop, nop)
		for _, place := range []int{20, 4, 20, 6} {
			m, _, e := d.seek(place)
			if e != api.OK || m.Count != 4 || m.End != api.Halted || d.now.place != place {
				t.Errorf("every %d: at %d: %v, %v", every, place, m, e)
			}
		}
		var got []int
		for _, p := range d.kept {
			got = append(got, p.place)
		}
		if !slices.Equal(got, want) {
			t.Errorf("every %d: checkpoints at %v; want %v", every, got, want)
		}
	}
}

// TestFramesOfCheckpoints: a checkpoint needs a frame more only for a page that is written behind it; what is not kept any more gives its frames back.
func TestFramesOfCheckpoints(t *testing.T) { // P6.3
	write := []api.Instr{{Op: api.Addi, A: 1, B: 1, N: 1}, {Op: api.St, A: 1, B: 7, N: 40}, {Op: api.Jmp, N: -2}}
	d, h := begun(t, api.Setup{Frames: 64, Every: 3, Keep: 2}, write...)
	for _, c := range []struct{ place, known int }{
		{0, 1},  // the image
		{1, 1},  // nothing is written
		{2, 2},  // page 2 is written
		{3, 2},  // a checkpoint, the guest in the same frames
		{4, 2},  // nothing is written
		{5, 3},  // the guest writes page 2, apart from the checkpoint
		{6, 3},  // two checkpoints
		{9, 3},  // the first checkpoint is not kept any more
		{11, 4}, // the guest apart from both
		{90, 3}, // so it stays
		{1, 3},  // at the beginning there is no page 2: the two of the checkpoints
	} {
		if _, _, e := d.seek(c.place); e != api.OK || h.Known() != c.known {
			t.Errorf("at %d: %d frames are known, %v; want %d, OK", c.place, h.Known(), e, c.known)
		}
	}
}
