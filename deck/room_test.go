package deck_test

import (
	"testing"

	"hourglass/api"
	"hourglass/deck"
)

// TestEnoughFrames: with 16 * (Keep + 2) of them there is room, whatever the guest writes and wherever one goes.
func TestEnoughFrames(t *testing.T) { // P6.3
	tape := recorded(t, writer(), api.World{}, 1300)
	l := []int{1300, 0, 700, 1299, 3, 1200, 641, 639}
	for keep := 1; keep <= api.MaxPoints; keep++ {
		for _, every := range []int{1, 13, 130, 1300} {
			for _, frames := range []int{enough(keep), enough(keep) + 1} {
				got, e := deck.Seek(api.Setup{Frames: frames, Every: every, Keep: keep}, tape, l)
				wantGuests(t, "enough", tape, l, got, e)
			}
		}
	}
}

// TestFewFrames: ErrRoom is told alone, or all that is told is right.
func TestFewFrames(t *testing.T) { // P6.3
	tape := recorded(t, writer(), api.World{}, 400)
	l := []int{400, 100, 399, 0}
	for keep := 1; keep <= api.MaxPoints; keep++ {
		for frames := range enough(keep) {
			got, e := deck.Seek(api.Setup{Frames: frames, Every: 130, Keep: keep}, tape, l)
			if e == api.ErrRoom {
				wantRefused(t, "few", got, e, api.ErrRoom)
				continue
			}
			wantGuests(t, "few", tape, l, got, e)
		}
	}
}

// TestFramesHoldMemory: the guest's memory is in frames, so that there is none where these are too few.
func TestFramesHoldMemory(t *testing.T) { // P6.3
	for what, c := range map[string]struct {
		words []int
		least int // as many frames the guest needs, wherever it is
	}{
		"all pages":       {writer(), 16},
		"one page":        {always(), 1},
		"no word, no use": {nil, 0},
	} {
		tape := recorded(t, c.words, api.World{}, 5)
		for frames := range c.least {
			got, e := deck.Seek(api.Setup{Frames: frames, Every: 9, Keep: 1}, tape, []int{tape.Count})
			wantRefused(t, what, got, e, api.ErrRoom)
		}
		got, e := deck.Seek(api.Setup{Frames: c.least, Every: 9, Keep: 1}, tape, []int{0, 1})
		wantGuests(t, what, tape, []int{0, 1}, got, e)
	}
}

// TestPagesAreShared: a page that is not written since stands in one frame, however many checkpoints there are.
func TestPagesAreShared(t *testing.T) { // P6.3
	words := writer()
	copy(words, image(addi(3, 3, 1), st(3, 7, 200), jmp(-2)))
	tape := recorded(t, words, api.World{}, 90)
	// All pages once, and page 12 once more for the guest and for each checkpoint.
	const frames = 16 + 1 + api.MaxPoints
	s := api.Setup{Frames: frames, Every: 3, Keep: api.MaxPoints}
	l := []int{90, 0, 80, 71, 90, 66, 1}
	got, e := deck.Seek(s, tape, l)
	wantGuests(t, "shared", tape, l, got, e)
}
