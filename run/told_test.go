package run_test

import (
	"slices"
	"testing"

	"hourglass/api"
	"hourglass/run"
)

// wantTold: these events tell the step of a place so.
func wantTold(t *testing.T, l []api.Event, place int, irqs bool, words []int, word int) {
	t.Helper()
	comes, block, value := run.Told(l, place)
	if comes != irqs || !slices.Equal(block, words) || value != word {
		t.Errorf("at %d: %v, %v, %d; want %v, %v, %d", place, comes, block, value, irqs, words, word)
	}
}

// TestTold: a step is told by the events with its count, and by no other ones.
func TestTold(t *testing.T) { // P5.5
	l := []api.Event{irq(0), block(2, page(3)), value(2, -5), irq(3), block(3, page(4)), value(3, 6), value(api.MaxCount-1, 7)}
	for range 2 {
		wantTold(t, l, 0, true, nil, 0)
		wantTold(t, l, 1, false, nil, 0)
		wantTold(t, l, 2, false, page(3), -5)
		wantTold(t, l, 3, true, page(4), 6)
		wantTold(t, l, 4, false, nil, 0)
		wantTold(t, l, api.MaxCount-1, false, nil, 7)
	}
	for _, place := range noCounts {
		wantTold(t, l, place, false, nil, 0)
	}
	wantTold(t, nil, 0, false, nil, 0)
	wantTold(t, []api.Event{{At: 4, Kind: api.Value}, {At: 4, Kind: 9}}, 4, false, nil, 0)
}

// TestToldMemory: a block that is told is not that of the event.
func TestToldMemory(t *testing.T) { // P5.5
	l := []api.Event{block(2, page(3))}
	_, words, _ := run.Told(l, 2)
	scribble(words)
	wantTold(t, l, 2, false, page(3), 0)
}
