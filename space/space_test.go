package space_test

import (
	"math"
	"slices"
	"testing"

	"hourglass/api"
	"hourglass/space"
)

// outside: addresses that are no word's, and such as would go round if they were reckoned with.
var outside = []int{-1, -api.PageWords, api.Words, api.Words + 1, 1 << 32, math.MinInt, math.MaxInt}

// wordsOf a space in which these addresses have these words, and all else is 0.
func wordsOf(l ...[2]int) []int {
	words := make([]int, api.Words)
	for _, w := range l {
		words[w[0]] = w[1]
	}
	return words
}

// wantPlayed: what was told is the words of both, and so many known frames.
func wantPlayed(t *testing.T, what string, a, b []int, known int, e api.Errno, first, second []int, frames int) {
	t.Helper()
	if e != api.OK || known != frames || !slices.Equal(a, first) || !slices.Equal(b, second) {
		t.Errorf("%s: %v, %v, %d, %v; want %v, %v, %d, OK", what, a, b, known, e, first, second, frames)
	}
}

// wantRefused: what was told is this error, and all else is zero.
func wantRefused(t *testing.T, what string, a, b []int, known int, e, want api.Errno) {
	t.Helper()
	if e != want || known != 0 || len(a) != 0 || len(b) != 0 {
		t.Errorf("%s: %v, %v, %d, %v; want nothing, nothing, 0, %v", what, a, b, known, e, want)
	}
}

// TestBlank: pages without a frame are all 0, and need none.
func TestBlank(t *testing.T) { // P4.1
	for _, n := range []int{0, 1, api.MaxFrames} {
		a, b, known, e := space.Play(n, nil, nil)
		wantPlayed(t, "nothing is written", a, b, known, e, wordsOf(), wordsOf(), 0)
		a, b, known, e = space.Play(n, [][2]int{}, [][3]int{})
		wantPlayed(t, "nothing is written, not nil", a, b, known, e, wordsOf(), wordsOf(), 0)
	}
}

// TestWriteIsSeenInTheFork: what was written ahead of the fork is seen by both, and takes a frame a page.
func TestWriteIsSeenInTheFork(t *testing.T) { // P4.1, P4.2
	for _, v := range []int{1, -1, math.MinInt, math.MaxInt} {
		for _, at := range []int{0, 1, api.PageWords - 1, api.PageWords, 100, api.Words - 1} {
			want := wordsOf([2]int{at, v})
			a, b, known, e := space.Play(1, [][2]int{{at, v}}, nil)
			wantPlayed(t, "one word", a, b, known, e, want, want, 1)
		}
	}
	l := [][2]int{{0, 5}, {15, 6}, {16, 7}, {0, 8}, {255, 9}}
	want := wordsOf(l...)
	a, b, known, e := space.Play(9, l, nil)
	wantPlayed(t, "three pages", a, b, known, e, want, want, 3)
}

// TestWriteOfNothing: a page takes a frame even if the word is 0, as it was.
func TestWriteOfNothing(t *testing.T) { // P4.1
	a, b, known, e := space.Play(1, [][2]int{{3, 0}}, nil)
	wantPlayed(t, "a word ahead of the fork", a, b, known, e, wordsOf(), wordsOf(), 1)
	a, b, known, e = space.Play(1, nil, [][3]int{{3, 0, 1}})
	wantPlayed(t, "a word of the fork", a, b, known, e, wordsOf(), wordsOf(), 1)
	a, b, known, e = space.Play(0, [][2]int{{3, 0}}, nil)
	wantRefused(t, "no frame is free", a, b, known, e, api.ErrRoom)
}

// TestWhoWrites: 0 is the first space, any other number is its fork; neither one sees what the other one writes.
func TestWhoWrites(t *testing.T) { // P4.2
	plain, written := wordsOf([2]int{20, 5}), wordsOf([2]int{20, 7})
	first := [][2]int{{20, 5}}
	a, b, known, e := space.Play(2, first, [][3]int{{20, 7, 0}})
	wantPlayed(t, "the first space", a, b, known, e, written, plain, 2)
	for _, who := range []int{1, 2, 3, 256, 1 << 32, -1, -2, math.MinInt, math.MaxInt} {
		a, b, known, e := space.Play(2, first, [][3]int{{20, 7, who}})
		wantPlayed(t, "the fork", a, b, known, e, plain, written, 2)
		a, b, known, e = space.Play(2, nil, [][3]int{{20, 7, who}})
		wantPlayed(t, "the fork, no frame ahead", a, b, known, e, wordsOf(), written, 1)
	}
}

// TestCopiedOnlyIfWritten: a page that both know is copied when the first one of them writes it, once.
func TestCopiedOnlyIfWritten(t *testing.T) { // P4.1, P4.2
	first := [][2]int{{0, 1}, {16, 2}, {32, 3}}
	for what, c := range map[string]struct {
		writes [][3]int
		a, b   [][2]int
		known  int
	}{
		"none writes":                 {nil, nil, nil, 3},
		"one writes":                  {[][3]int{{1, 9, 0}}, [][2]int{{1, 9}}, nil, 4},
		"one writes twice":            {[][3]int{{1, 9, 0}, {2, 8, 0}}, [][2]int{{1, 9}, {2, 8}}, nil, 4},
		"one writes what was there":   {[][3]int{{0, 1, 0}}, nil, nil, 4},
		"both write the page":         {[][3]int{{1, 9, 0}, {1, 8, 1}}, [][2]int{{1, 9}}, [][2]int{{1, 8}}, 4},
		"the fork writes it first":    {[][3]int{{1, 8, 1}, {1, 9, 0}}, [][2]int{{1, 9}}, [][2]int{{1, 8}}, 4},
		"both, again and again":       {[][3]int{{1, 8, 1}, {1, 9, 0}, {0, 7, 1}, {0, 6, 0}}, [][2]int{{0, 6}, {1, 9}}, [][2]int{{0, 7}, {1, 8}}, 4},
		"one writes all":              {[][3]int{{1, 8, 1}, {17, 8, 1}, {33, 8, 1}}, nil, [][2]int{{1, 8}, {17, 8}, {33, 8}}, 6},
		"each writes another page":    {[][3]int{{1, 9, 0}, {17, 8, 1}}, [][2]int{{1, 9}}, [][2]int{{17, 8}}, 5},
		"one writes a new page":       {[][3]int{{48, 9, 0}}, [][2]int{{48, 9}}, nil, 4},
		"both write a new page":       {[][3]int{{48, 9, 0}, {48, 8, 1}}, [][2]int{{48, 9}}, [][2]int{{48, 8}}, 5},
		"both write a new page twice": {[][3]int{{48, 9, 0}, {48, 8, 1}, {63, 7, 0}, {63, 6, 1}}, [][2]int{{48, 9}, {63, 7}}, [][2]int{{48, 8}, {63, 6}}, 5},
	} {
		x, y := wordsOf(append(slices.Clone(first), c.a...)...), wordsOf(append(slices.Clone(first), c.b...)...)
		for _, n := range []int{c.known, c.known + 1, api.MaxFrames} {
			a, b, known, e := space.Play(n, first, c.writes)
			wantPlayed(t, what, a, b, known, e, x, y, c.known)
		}
		if c.known > 3 {
			a, b, known, e := space.Play(c.known-1, first, c.writes)
			wantRefused(t, what+": a frame too few", a, b, known, e, api.ErrRoom)
		}
	}
}

// TestAllPages: both spaces have all their pages, in twice as many frames, and not in one less.
func TestAllPages(t *testing.T) { // P4.1, P4.2
	var first [][2]int
	var writes [][3]int
	x, y := make([]int, api.Words), make([]int, api.Words)
	for at := range api.Words {
		first = append(first, [2]int{at, at + 1})
		writes = append(writes, [3]int{api.Words - 1 - at, -at, 1})
		x[at], y[api.Words-1-at] = at+1, -at
	}
	a, b, known, e := space.Play(api.Pages, first, nil)
	wantPlayed(t, "one space", a, b, known, e, x, x, api.Pages)
	a, b, known, e = space.Play(2*api.Pages, first, writes)
	wantPlayed(t, "both", a, b, known, e, x, y, 2*api.Pages)
	a, b, known, e = space.Play(api.Pages-1, first, nil)
	wantRefused(t, "one space, a frame too few", a, b, known, e, api.ErrRoom)
	a, b, known, e = space.Play(2*api.Pages-1, first, writes)
	wantRefused(t, "both, a frame too few", a, b, known, e, api.ErrRoom)
}

// TestHowManyFrames: a host that may not be is refused ahead of wrong writes.
func TestHowManyFrames(t *testing.T) { // P4.3
	for _, n := range []int{-1, -2, -api.MaxFrames, api.MaxFrames + 1, 1 << 32, math.MinInt, math.MaxInt} {
		a, b, known, e := space.Play(n, nil, nil)
		wantRefused(t, "no write", a, b, known, e, api.ErrRange)
		a, b, known, e = space.Play(n, [][2]int{{0, 1}}, [][3]int{{0, 2, 1}})
		wantRefused(t, "good writes", a, b, known, e, api.ErrRange)
	}
}

// TestNoSuchWord: for each of the spaces, and whether a frame is free or not.
func TestNoSuchWord(t *testing.T) { // P4.3
	for _, at := range outside {
		for _, n := range []int{0, 1, api.MaxFrames} {
			a, b, known, e := space.Play(n, [][2]int{{at, 1}}, nil)
			wantRefused(t, "ahead of the fork", a, b, known, e, api.ErrRange)
			for _, who := range []int{0, 1} {
				a, b, known, e = space.Play(n, nil, [][3]int{{at, 1, who}})
				wantRefused(t, "behind it", a, b, known, e, api.ErrRange)
			}
		}
	}
}

// TestWriteByWrite: the first write that is refused tells why, whatever is wrong with those behind it.
func TestWriteByWrite(t *testing.T) { // P4.3
	for what, c := range map[string]struct {
		n      int
		first  [][2]int
		writes [][3]int
		want   api.Errno
	}{
		"no frame, then no word":            {0, [][2]int{{0, 1}, {-1, 1}}, nil, api.ErrRoom},
		"no word, then no frame":            {0, [][2]int{{256, 1}, {0, 1}}, nil, api.ErrRange},
		"no frame, then no word of a fork":  {1, [][2]int{{0, 1}, {16, 1}}, [][3]int{{-1, 1, 1}}, api.ErrRoom},
		"no word, then no frame for a fork": {1, [][2]int{{0, 1}, {-1, 1}}, [][3]int{{0, 1, 1}}, api.ErrRange},
		"no copy, then no word":             {1, [][2]int{{0, 1}}, [][3]int{{0, 2, 1}, {-1, 1, 1}}, api.ErrRoom},
		"no word, then no copy":             {1, [][2]int{{0, 1}}, [][3]int{{256, 1, 1}, {0, 2, 1}}, api.ErrRange},
		"no copy, then a good one":          {2, [][2]int{{0, 1}, {16, 2}}, [][3]int{{0, 2, 0}, {48, 2, 0}}, api.ErrRoom},
		"good ones, then no word":           {9, [][2]int{{0, 1}, {16, 2}}, [][3]int{{0, 2, 0}, {48, 2, 1}, {256, 2, 1}}, api.ErrRange},
		"good ones, then no frame":          {4, [][2]int{{0, 1}, {16, 2}}, [][3]int{{0, 2, 0}, {48, 2, 1}, {48, 2, 0}}, api.ErrRoom},
	} {
		a, b, known, e := space.Play(c.n, c.first, c.writes)
		wantRefused(t, what, a, b, known, e, c.want)
	}
}
