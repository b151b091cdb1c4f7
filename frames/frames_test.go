package frames_test

import (
	"math"
	"slices"
	"testing"

	"hourglass/api"
	"hourglass/frames"
)

// outside: numbers that are no place, and that would go round if they were reckoned with.
var outside = []int{-1, math.MinInt, math.MaxInt}

// page: PageWords words that tell of whom they are.
func page(of int) []int {
	l := make([]int, api.PageWords)
	for i := range l {
		l[i] = of*100 + i
	}
	return l
}

// host: frames that so many know; the words of each tell its place.
func host(refs ...int) api.Frames {
	f := api.Frames{Refs: refs}
	for n, r := range refs {
		var words []int
		if r > 0 {
			words = page(n)
		}
		f.Data = append(f.Data, words)
	}
	return f
}

// many: so many frames, all known by so many.
func many(n, refs int) api.Frames {
	return host(slices.Repeat([]int{refs}, n)...)
}

// same: the frames are equal; a list without elements may be nil or not.
func same(f, g api.Frames) bool {
	return slices.Equal(f.Refs, g.Refs) && slices.EqualFunc(f.Data, g.Data, slices.Equal[[]int])
}

func isZero(f api.Frames) bool { return len(f.Data) == 0 && len(f.Refs) == 0 }

// wantFrames: an answer is these frames, which may be, and told place and error are these.
func wantFrames(t *testing.T, what string, g api.Frames, at int, e api.Errno, want api.Frames, place int) {
	t.Helper()
	if e != api.OK || at != place || !same(g, want) {
		t.Errorf("%s: %v, %d, %v; want %v, %d, OK", what, g, at, e, want, place)
	}
	if e := frames.Check(g); e != api.OK {
		t.Errorf("%s: what is answered may not be: %v", what, e)
	}
}

// wantRefused: an answer is this error, and all else is zero.
func wantRefused(t *testing.T, what string, g api.Frames, at int, e, want api.Errno) {
	t.Helper()
	if e != want || at != 0 || !isZero(g) {
		t.Errorf("%s: %v, %d, %v; want nothing, 0, %v", what, g, at, e, want)
	}
}

func TestNew(t *testing.T) { // P1.1
	for _, n := range []int{0, 1, 2, 17, api.MaxFrames - 1, api.MaxFrames} {
		f, e := frames.New(n)
		wantFrames(t, "New", f, 0, e, host(make([]int, n)...), 0)
	}
	for _, n := range append(outside, -2, -api.MaxFrames, api.MaxFrames+1, 1<<32) {
		f, e := frames.New(n)
		wantRefused(t, "New", f, 0, e, api.ErrRange)
	}
}

func TestCheckTakesWhatMayBe(t *testing.T) { // P1.2
	for what, f := range map[string]api.Frames{
		"none":              {},
		"none, but not nil": {Data: [][]int{}, Refs: []int{}},
		"a free one":        host(0),
		"free, but not nil": {Data: [][]int{{}}, Refs: []int{0}},
		"known ones":        host(1, 0, 2, api.MaxFrames),
		"the most":          many(api.MaxFrames, api.MaxFrames),
		"any words":         {Data: [][]int{slices.Repeat([]int{math.MinInt, math.MaxInt}, api.PageWords/2)}, Refs: []int{1}},
		"spare room":        {Data: [][]int{page(0)[:0]}, Refs: []int{0}},
	} {
		if e := frames.Check(f); e != api.OK {
			t.Errorf("%s: %v; want OK", what, e)
		}
	}
}

// mayNotBe: frames each of which breaks one rule of P1.2.
func mayNotBe() map[string]api.Frames {
	return map[string]api.Frames{
		"Data is missing":        {Refs: []int{0}},
		"Refs is missing":        {Data: [][]int{nil}},
		"more Data than Refs":    {Data: [][]int{page(0), page(1)}, Refs: []int{1}},
		"more Refs than Data":    {Data: [][]int{page(0)}, Refs: []int{1, 0}},
		"too many free":          many(api.MaxFrames+1, 0),
		"too many known":         many(api.MaxFrames+1, 1),
		"below 0, no words":      host(1, -1),
		"below 0, with words":    {Data: [][]int{page(0), page(1)}, Refs: []int{1, -1}},
		"least number":           host(1, math.MinInt),
		"too many know it":       host(1, api.MaxFrames+1),
		"greatest number":        host(1, math.MaxInt),
		"free, a word":           {Data: [][]int{page(0), {0}}, Refs: []int{1, 0}},
		"free, a page":           {Data: [][]int{page(0), page(1)}, Refs: []int{1, 0}},
		"known, no words":        {Data: [][]int{page(0), nil}, Refs: []int{1, 1}},
		"known, a word too few":  {Data: [][]int{page(0), page(1)[1:]}, Refs: []int{1, 1}},
		"known, a word too many": {Data: [][]int{page(0), append(page(1), 0)}, Refs: []int{1, 1}},
		"the last one of many":   {Data: append(many(api.MaxFrames-1, 1).Data, nil), Refs: many(api.MaxFrames, 1).Refs},
	}
}

func TestCheckRefusesWhatMayNotBe(t *testing.T) { // P1.2
	for what, f := range mayNotBe() {
		if e := frames.Check(f); e != api.ErrState {
			t.Errorf("%s: %v; want ErrState", what, e)
		}
	}
}

func TestCopyTellsTheSame(t *testing.T) { // P1.2
	for what, f := range mayNotBe() {
		if g := frames.Copy(f); !same(g, f) {
			t.Errorf("%s: %v; want %v", what, g, f)
		}
	}
	for _, f := range []api.Frames{{}, host(0), host(1, 0, 3), many(api.MaxFrames, api.MaxFrames)} {
		if g := frames.Copy(f); !same(g, f) {
			t.Errorf("%v; want %v", g, f)
		}
	}
}

// TestStateComesFirst: frames that may not be are refused ahead of wrong places and words, and of good ones.
func TestStateComesFirst(t *testing.T) { // P1.2
	for what, f := range mayNotBe() {
		g, at, e := frames.Take(f)
		wantRefused(t, what+": Take", g, at, e, api.ErrState)
		for _, n := range append(outside, 0, 1, api.MaxFrames, api.MaxFrames+1) {
			g, e := frames.Share(f, n)
			wantRefused(t, what+": Share", g, 0, e, api.ErrState)
			g, e = frames.Drop(f, n)
			wantRefused(t, what+": Drop", g, 0, e, api.ErrState)
			for _, word := range append(outside, 0, api.PageWords) {
				v, e := frames.Read(f, n, word)
				wantRefused(t, what+": Read", api.Frames{}, v, e, api.ErrState)
				g, at, e := frames.Write(f, n, word, 7)
				wantRefused(t, what+": Write", g, at, e, api.ErrState)
			}
		}
	}
}

// TestNoSuchFrame: a place behind the last one, below the first one, or of a free one, ahead of a wrong word.
func TestNoSuchFrame(t *testing.T) { // P1.2
	f := host(1, 0, 2)
	for _, n := range append(outside, 1, 3, 4, api.MaxFrames) {
		g, e := frames.Share(f, n)
		wantRefused(t, "Share", g, 0, e, api.ErrNone)
		g, e = frames.Drop(f, n)
		wantRefused(t, "Drop", g, 0, e, api.ErrNone)
		for _, word := range append(outside, 0, api.PageWords) {
			v, e := frames.Read(f, n, word)
			wantRefused(t, "Read", api.Frames{}, v, e, api.ErrNone)
			g, at, e := frames.Write(f, n, word, 7)
			wantRefused(t, "Write", g, at, e, api.ErrNone)
		}
	}
	g, at, e := frames.Write(api.Frames{}, 0, 0, 7)
	wantRefused(t, "Write to none", g, at, e, api.ErrNone)
}

func TestTake(t *testing.T) { // P1.3
	blank := make([]int, api.PageWords)
	for _, c := range []struct {
		f     api.Frames
		place int
	}{
		{host(0), 0},
		{host(0, 0, 0), 0},
		{host(1, 0, 0), 1},
		{host(2, api.MaxFrames, 1, 0), 3},
		{host(1, 1, 0, 1), 2},
		{host(append(make([]int, api.MaxFrames-1), 1)...), 0},
	} {
		want := frames.Copy(c.f)
		want.Refs[c.place], want.Data[c.place] = 1, blank
		g, at, e := frames.Take(c.f)
		wantFrames(t, "Take", g, at, e, want, c.place)
	}
	for _, f := range []api.Frames{{}, host(1), host(1, 2, 3), many(api.MaxFrames, 1)} {
		g, at, e := frames.Take(f)
		wantRefused(t, "Take", g, at, e, api.ErrRoom)
	}
}

// TestTakeForgets: what a frame had ahead of being free, even in its spare room, is not seen by the next one.
func TestTakeForgets(t *testing.T) { // P1.3
	f, e := frames.Drop(host(1), 0)
	wantFrames(t, "Drop", f, 0, e, host(0), 0)
	blank := api.Frames{Data: [][]int{make([]int, api.PageWords)}, Refs: []int{1}}
	g, at, e := frames.Take(f)
	wantFrames(t, "Take", g, at, e, blank, 0)
	g, at, e = frames.Take(api.Frames{Data: [][]int{page(3)[:0]}, Refs: []int{0}})
	wantFrames(t, "Take", g, at, e, blank, 0)
}

// TestTakeAll: so many as there are can be taken, in the order of their places, and not one more.
func TestTakeAll(t *testing.T) { // P1.3
	f, e := frames.New(api.MaxFrames)
	wantFrames(t, "New", f, 0, e, many(api.MaxFrames, 0), 0)
	for n := range api.MaxFrames {
		g, at, e := frames.Take(f)
		if e != api.OK || at != n {
			t.Fatalf("Take %d: %d, %v", n, at, e)
		}
		f = g
	}
	g, at, e := frames.Take(f)
	wantRefused(t, "Take", g, at, e, api.ErrRoom)
}

func TestShare(t *testing.T) { // P1.4
	f := host(1, 0, 2, api.MaxFrames-1, api.MaxFrames)
	for _, n := range []int{0, 2, 3} {
		want := frames.Copy(f)
		want.Refs[n]++
		g, e := frames.Share(f, n)
		wantFrames(t, "Share", g, 0, e, want, 0)
	}
	g, e := frames.Share(f, 4)
	wantRefused(t, "Share", g, 0, e, api.ErrSize)
}

func TestDrop(t *testing.T) { // P1.4
	f := host(1, 0, 2, api.MaxFrames)
	for n, want := range map[int]api.Frames{
		0: host(0, 0, 2, api.MaxFrames),
		2: host(1, 0, 1, api.MaxFrames),
		3: host(1, 0, 2, api.MaxFrames-1),
	} {
		g, e := frames.Drop(f, n)
		wantFrames(t, "Drop", g, 0, e, want, 0)
	}
}

// TestDropToFree: as many drops as know it make it free, and then there is none to drop.
func TestDropToFree(t *testing.T) { // P1.4
	f := host(1, 3)
	for left := 2; left >= 0; left-- {
		g, e := frames.Drop(f, 1)
		wantFrames(t, "Drop", g, 0, e, host(1, left), 0)
		f = g
	}
	g, e := frames.Drop(f, 1)
	wantRefused(t, "Drop", g, 0, e, api.ErrNone)
}

func TestRead(t *testing.T) { // P1.5
	f := host(1, 0, api.MaxFrames)
	f.Data[2][5] = math.MinInt
	for _, n := range []int{0, 2} {
		for at, want := range f.Data[n] {
			if v, e := frames.Read(f, n, at); v != want || e != api.OK {
				t.Errorf("Read %d %d: %d, %v; want %d, OK", n, at, v, e, want)
			}
		}
		for _, at := range append(outside, api.PageWords, api.PageWords+1) {
			v, e := frames.Read(f, n, at)
			wantRefused(t, "Read", api.Frames{}, v, e, api.ErrRange)
		}
	}
}

// TestReadSpareRoom: a word behind the last one is none, though there is room for it.
func TestReadSpareRoom(t *testing.T) { // P1.5
	f := api.Frames{Data: [][]int{append(page(0), 99)[:api.PageWords]}, Refs: []int{1}}
	v, e := frames.Read(f, 0, api.PageWords)
	wantRefused(t, "Read", api.Frames{}, v, e, api.ErrRange)
	g, at, e := frames.Write(f, 0, api.PageWords, 7)
	wantRefused(t, "Write", g, at, e, api.ErrRange)
}

// TestWriteInPlace: a frame that only one knows is written where it is, whether another one is free or not.
func TestWriteInPlace(t *testing.T) { // P1.5
	for _, f := range []api.Frames{host(0, 1, 2), host(3, 1, 1), host(1, 1, 0)} {
		for _, word := range []int{0, 7, api.PageWords - 1} {
			for _, v := range []int{0, -5, math.MinInt, math.MaxInt} {
				want := frames.Copy(f)
				want.Data[1][word] = v
				g, at, e := frames.Write(f, 1, word, v)
				wantFrames(t, "Write", g, at, e, want, 1)
			}
		}
	}
}

// TestWriteCopies: a frame that others know stays as it is, and the first free one, ahead of it or behind it, is written.
func TestWriteCopies(t *testing.T) { // P1.5
	for _, c := range []struct {
		f     api.Frames
		place int
	}{
		{host(0, 2, 0), 0},
		{host(1, 2, 0, 0), 2},
		{host(1, api.MaxFrames, 5, 0), 3},
	} {
		for _, word := range []int{0, 7, api.PageWords - 1} {
			want := frames.Copy(c.f)
			want.Refs[1]--
			want.Refs[c.place], want.Data[c.place] = 1, page(1)
			want.Data[c.place][word] = -7
			g, at, e := frames.Write(c.f, 1, word, -7)
			wantFrames(t, "Write", g, at, e, want, c.place)
		}
	}
}

// TestWriteCopiesTheSame: a frame that others know is copied even if the word is v already.
func TestWriteCopiesTheSame(t *testing.T) { // P1.5
	want := host(1, 1)
	want.Data[1] = page(0)
	g, at, e := frames.Write(host(2, 0), 0, 3, 3)
	wantFrames(t, "Write", g, at, e, want, 1)
}

func TestWriteRefused(t *testing.T) { // P1.5
	full, free := host(1, 2), host(1, 2, 0)
	for _, word := range append(outside, api.PageWords, api.PageWords+1) {
		for _, n := range []int{0, 1} {
			g, at, e := frames.Write(full, n, word, 7)
			wantRefused(t, "Write, none free", g, at, e, api.ErrRange)
			g, at, e = frames.Write(free, n, word, 7)
			wantRefused(t, "Write, one free", g, at, e, api.ErrRange)
		}
	}
	g, at, e := frames.Write(full, 1, 0, 7)
	wantRefused(t, "Write, none free", g, at, e, api.ErrRoom)
	g, at, e = frames.Write(many(api.MaxFrames, api.MaxFrames), 0, 0, 7)
	wantRefused(t, "Write, none free of the most", g, at, e, api.ErrRoom)
}
