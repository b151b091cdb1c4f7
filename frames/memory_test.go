package frames_test

import (
	"slices"
	"testing"

	"hourglass/api"
	"hourglass/frames"
)

// calls: each call that answers frames, in each of its ways, on the frames that roomy tells.
var calls = map[string]func(api.Frames) (api.Frames, api.Errno){
	"Copy":  func(f api.Frames) (api.Frames, api.Errno) { return frames.Copy(f), api.OK },
	"Take":  func(f api.Frames) (api.Frames, api.Errno) { g, _, e := frames.Take(f); return g, e },
	"Share": func(f api.Frames) (api.Frames, api.Errno) { return frames.Share(f, 0) },
	"Drop, others know it": func(f api.Frames) (api.Frames, api.Errno) {
		return frames.Drop(f, 2)
	},
	"Drop, nobody knows it": func(f api.Frames) (api.Frames, api.Errno) {
		return frames.Drop(f, 0)
	},
	"Write, in place": func(f api.Frames) (api.Frames, api.Errno) {
		g, _, e := frames.Write(f, 0, 4, 7)
		return g, e
	},
	"Write, a copy": func(f api.Frames) (api.Frames, api.Errno) {
		g, _, e := frames.Write(f, 2, 4, 7)
		return g, e
	},
}

// roomy: frames each list of which has spare room that is not 0.
func roomy() api.Frames {
	return api.Frames{
		Data: append(make([][]int, 0, 8), withRoom(page(0)), withRoom(nil), withRoom(page(2)), withRoom(nil), withRoom(page(4)))[:4],
		Refs: withRoom([]int{1, 0, 2, 0}),
	}
}

func withRoom(l []int) []int {
	return append(slices.Clone(l), 91, 92, 93)[:len(l)]
}

// whole: the lists of frames with their spare room: all of Data, then Refs.
func whole(f api.Frames) [][]int {
	var l [][]int
	for _, words := range f.Data[:cap(f.Data)] {
		l = append(l, words[:cap(words)])
	}
	return append(l, f.Refs[:cap(f.Refs)])
}

func equalWhole(f, g api.Frames) bool {
	return slices.EqualFunc(whole(f), whole(g), slices.Equal[[]int])
}

// scribble writes a number of its own into each list, spare room too, and tells whether each one keeps it.
func scribble(f api.Frames) bool {
	l := whole(f)
	for i, words := range l {
		for k := range words {
			words[k] = -1000 - i
		}
	}
	for i, words := range l {
		for _, v := range words {
			if v != -1000-i {
				return false
			}
		}
	}
	for n := range f.Data[:cap(f.Data)] {
		f.Data[:cap(f.Data)][n] = []int{-1}
	}
	return true
}

// TestHandedInStays: neither a call nor what is done to its answer changes what was handed in, spare room too.
func TestHandedInStays(t *testing.T) {
	for what, call := range calls {
		f := roomy()
		g, e := call(f)
		if e != api.OK {
			t.Errorf("%s: %v", what, e)
		}
		if !equalWhole(f, roomy()) {
			t.Errorf("%s: what was handed in is changed: %v", what, whole(f))
		}
		if !scribble(g) {
			t.Errorf("%s: two lists of the answer share memory", what)
		}
		if !equalWhole(f, roomy()) {
			t.Errorf("%s: the answer shares memory with what was handed in", what)
		}
	}
}

// TestAnswersAreApart: what is done to one answer, or to what was handed in, is not seen in another answer.
func TestAnswersAreApart(t *testing.T) {
	for what, call := range calls {
		f := roomy()
		g, _ := call(f)
		h, _ := call(f)
		want := frames.Copy(h)
		scribble(g)
		scribble(f)
		if !same(h, want) {
			t.Errorf("%s: an answer is changed: %v; want %v", what, h, want)
		}
	}
	g, _ := frames.New(3)
	h, _ := frames.New(3)
	scribble(g)
	if !same(h, many(3, 0)) {
		t.Errorf("New: an answer is changed: %v", h)
	}
}

// TestListsHandedInTwice: lists that were handed in as one are not one in the answer.
func TestListsHandedInTwice(t *testing.T) {
	words := page(0)
	written := page(0)
	written[3] = -7
	f := api.Frames{Data: [][]int{words, words, nil}, Refs: []int{1, 2, 0}}
	for n, c := range []struct {
		want  api.Frames
		place int
	}{
		{api.Frames{Data: [][]int{written, page(0), nil}, Refs: []int{1, 2, 0}}, 0},
		{api.Frames{Data: [][]int{page(0), page(0), written}, Refs: []int{1, 1, 1}}, 2},
	} {
		g, at, e := frames.Write(f, n, 3, -7)
		wantFrames(t, "Write", g, at, e, c.want, c.place)
		if !scribble(g) {
			t.Errorf("Write %d: two lists of the answer share memory", n)
		}
	}
	if !slices.Equal(words, page(0)) {
		t.Errorf("what was handed in is changed: %v", words)
	}
}

// TestRefusedStays: what is handed in to a call that refuses stays as it was, spare room too.
func TestRefusedStays(t *testing.T) {
	f := roomy()
	frames.Share(f, 1)
	frames.Drop(f, 1)
	frames.Read(f, 0, api.PageWords)
	frames.Write(f, 2, api.PageWords, 7)
	if !equalWhole(f, roomy()) {
		t.Errorf("what was handed in is changed: %v", whole(f))
	}
}
