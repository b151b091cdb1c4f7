package run_test

import (
	"slices"
	"testing"

	"hourglass/api"
	"hourglass/run"
)

// wantWorld: CheckWorld answers so, and Record refuses what it refuses.
func wantWorld(t *testing.T, what string, w api.World, want api.Errno) {
	t.Helper()
	if e := run.CheckWorld(w); e != want {
		t.Errorf("%s: CheckWorld: %v; want %v", what, e, want)
	}
	if want != api.OK {
		wantNoTape(t, what, nil, w, 5, want)
		wantNoTape(t, what+", and no count", nil, w, -1, want)
	}
}

// pages: so many blocks.
func pages(n int) [][]int { return slices.Repeat([][]int{page(0)}, n) }

func TestWorldsThatMayBe(t *testing.T) { // P5.1
	for what, w := range map[string]api.World{
		"nothing":               {},
		"nothing, not nil":      {Irqs: []int{}, Values: []int{}, Blocks: [][]int{}, Delays: []int{}},
		"first and last counts": {Irqs: []int{0, api.MaxCount}, Delays: []int{0, api.MaxCount}},
		"counts in no order":    {Irqs: []int{9, 3, 3, 9, 0}, Delays: []int{7, 7, 1}},
		"the edges of words":    {Values: []int{-api.MaxWord, 0, api.MaxWord}},
		"a block of the edges":  {Blocks: [][]int{slices.Repeat([]int{-api.MaxWord, api.MaxWord}, 8)}},
		"a block of 0":          {Blocks: [][]int{blank(), page(5)}},
		"as many as may be": {
			Irqs: counts(0, api.MaxEvents), Values: counts(0, api.MaxEvents),
			Blocks: pages(api.MaxEvents), Delays: counts(0, api.MaxEvents),
		},
	} {
		wantWorld(t, what, w, api.OK)
	}
}

func TestWorldSizes(t *testing.T) { // P5.1
	for _, n := range []int{api.MaxEvents + 1, api.MaxEvents + 2, 5000} {
		wantWorld(t, "Irqs", api.World{Irqs: make([]int, n)}, api.ErrSize)
		wantWorld(t, "Values", api.World{Values: make([]int, n)}, api.ErrSize)
		wantWorld(t, "Blocks", api.World{Blocks: pages(n)}, api.ErrSize)
		wantWorld(t, "Delays", api.World{Delays: make([]int, n)}, api.ErrSize)
	}
	most := make([]int, api.MaxEvents+1)
	wantWorld(t, "ahead of a count", api.World{Irqs: []int{-1}, Delays: most}, api.ErrSize)
	wantWorld(t, "ahead of a delay", api.World{Irqs: most, Delays: []int{-1}}, api.ErrSize)
	wantWorld(t, "ahead of a word", api.World{Irqs: most, Values: noWords}, api.ErrSize)
	wantWorld(t, "ahead of a block", api.World{Values: []int{noWords[0]}, Blocks: make([][]int, api.MaxEvents+1)}, api.ErrSize)
}

func TestWorldRanges(t *testing.T) { // P5.1
	for _, n := range noCounts {
		for _, l := range [][]int{{n}, {n, 5}, {5, n}, {0, 1, 2, n, 3}} {
			wantWorld(t, "Irqs", api.World{Irqs: l}, api.ErrRange)
			wantWorld(t, "Delays", api.World{Delays: l}, api.ErrRange)
			wantWorld(t, "Irqs, ahead of a block", api.World{Irqs: l, Blocks: [][]int{nil}}, api.ErrRange)
			wantWorld(t, "Delays, ahead of a block", api.World{Delays: l, Blocks: [][]int{nil}}, api.ErrRange)
		}
	}
	for _, n := range noWords {
		for _, l := range [][]int{{n}, {n, 5}, {5, n}, {0, 1, 2, n, 3}} {
			wantWorld(t, "Values", api.World{Values: l}, api.ErrRange)
			wantWorld(t, "Values, ahead of a block", api.World{Values: l, Blocks: [][]int{nil}}, api.ErrRange)
		}
	}
}

// TestWorldValuesAreNoCounts: words may be below 0, and above all counts.
func TestWorldValuesAreNoCounts(t *testing.T) { // P5.1
	wantWorld(t, "Values", api.World{Values: []int{-1, api.MaxCount + 1}, Blocks: [][]int{page(-8), page(api.MaxCount)}}, api.OK)
}

func TestWorldBlocks(t *testing.T) { // P5.1
	for n := range 40 {
		b := make([]int, n)
		want := api.ErrSize
		if n == api.PageWords {
			want = api.OK
		}
		wantWorld(t, "a block", api.World{Blocks: [][]int{b}}, want)
		wantWorld(t, "a block behind another one", api.World{Blocks: [][]int{page(1), b}}, want)
		wantWorld(t, "a block ahead of another one", api.World{Blocks: [][]int{b, page(1)}}, want)
	}
	for _, n := range noWords {
		for place := range api.PageWords {
			b := page(1)
			b[place] = n
			wantWorld(t, "a word of a block", api.World{Blocks: [][]int{b}}, api.ErrRange)
			wantWorld(t, "a word of a block behind", api.World{Blocks: [][]int{page(1), b}}, api.ErrRange)
		}
		wantWorld(t, "its size comes first", api.World{Blocks: [][]int{{n}}}, api.ErrSize)
		wantWorld(t, "its size comes first", api.World{Blocks: [][]int{append(page(1), n)}}, api.ErrSize)
	}
}

// TestWorldBlockByBlock: what is wrong with one block comes ahead of all that is wrong with the next one.
func TestWorldBlockByBlock(t *testing.T) { // P5.1
	short, wrong := []int{1, 2}, page(api.MaxWord)
	wantWorld(t, "a short one first", api.World{Blocks: [][]int{page(1), short, wrong}}, api.ErrSize)
	wantWorld(t, "no word first", api.World{Blocks: [][]int{page(1), wrong, short}}, api.ErrRange)
}
