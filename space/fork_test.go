package space_test

import (
	"slices"
	"testing"

	"hourglass/api"
	"hourglass/frames"
	"hourglass/space"
)

// hostOf so many frames, all free.
func hostOf(t *testing.T, n int) *frames.Host {
	t.Helper()
	h, e := frames.NewHost(n)
	if e != api.OK {
		t.Fatal(e)
	}
	return h
}

// forkOf a space, that can't be refused.
func forkOf(t *testing.T, s *space.Space) *space.Space {
	t.Helper()
	fork, e := s.Fork()
	if e != api.OK {
		t.Fatal(e)
	}
	return fork
}

// wantSpace: these are its words, and so many frames of its host are known.
func wantSpace(t *testing.T, what string, h *frames.Host, s *space.Space, words []int, known int) {
	t.Helper()
	if got := s.Words(); !slices.Equal(got, words) {
		t.Errorf("%s: %v; want %v", what, got, words)
	}
	if got := h.Known(); got != known {
		t.Errorf("%s: %d frames are known; want %d", what, got, known)
	}
}

// TestManyForks: each one of them sees what it wrote, and what was written ahead of it.
func TestManyForks(t *testing.T) { // P4.1
	h := hostOf(t, 12)
	s := space.Blank(h)
	wantSpace(t, "blank", h, s, wordsOf(), 0)
	var forks []*space.Space
	for i := range 10 {
		if e := s.Set(20, i); e != api.OK {
			t.Fatal(e)
		}
		forks = append(forks, forkOf(t, s))
	}
	for i, fork := range forks {
		wantSpace(t, "a fork", h, fork, wordsOf([2]int{20, i}), 10)
	}
	wantSpace(t, "the first one", h, s, wordsOf([2]int{20, 9}), 10)
	if e := forks[3].Set(21, 5); e != api.OK {
		t.Fatal(e)
	}
	wantSpace(t, "alone in its frame", h, forks[3], wordsOf([2]int{20, 3}, [2]int{21, 5}), 10)
	if e := forks[9].Set(21, 6); e != api.OK {
		t.Fatal(e)
	}
	wantSpace(t, "not alone", h, forks[9], wordsOf([2]int{20, 9}, [2]int{21, 6}), 11)
	wantSpace(t, "the first one stays", h, s, wordsOf([2]int{20, 9}), 11)
	wantSpace(t, "a fork of a fork", h, forkOf(t, forks[9]), wordsOf([2]int{20, 9}, [2]int{21, 6}), 11)
}

// TestClear: frames that no other space knows are free again.
func TestClear(t *testing.T) { // P4.1
	h := hostOf(t, 3)
	s := space.Blank(h)
	s.Set(0, 1)
	s.Set(16, 2)
	fork := forkOf(t, s)
	fork.Set(0, 3)
	if e := fork.Set(16, 4); e != api.ErrRoom {
		t.Errorf("no frame is free: %v", e)
	}
	wantSpace(t, "what is refused", h, fork, wordsOf([2]int{0, 3}, [2]int{16, 2}), 3)
	s.Clear()
	wantSpace(t, "cleared", h, s, wordsOf(), 2)
	wantSpace(t, "its fork", h, fork, wordsOf([2]int{0, 3}, [2]int{16, 2}), 2)
	if e := s.Set(255, 9); e != api.OK {
		t.Errorf("a frame is free again: %v", e)
	}
	wantSpace(t, "written again", h, s, wordsOf([2]int{255, 9}), 3)
	s.Clear()
	s.Clear()
	fork.Clear()
	wantSpace(t, "all are cleared", h, fork, wordsOf(), 0)
}

// TestSetAll: only words that are others are written: a page that stays the same takes no frame, and is not copied.
func TestSetAll(t *testing.T) { // P4.1
	h := hostOf(t, 3)
	s := space.Blank(h)
	set := func(what string, words []int, want api.Errno) {
		t.Helper()
		was := slices.Clone(words)
		if e := s.SetAll(words); e != want {
			t.Errorf("%s: %v; want %v", what, e, want)
		}
		if !slices.Equal(words, was) {
			t.Errorf("%s: what was handed in is changed: %v", what, words)
		}
	}
	set("blank", wordsOf(), api.OK)
	wantSpace(t, "blank", h, s, wordsOf(), 0)
	two := wordsOf([2]int{3, 5}, [2]int{255, 6})
	set("two pages", two, api.OK)
	wantSpace(t, "two pages", h, s, two, 2)
	fork := forkOf(t, s)
	set("the same", two, api.OK)
	wantSpace(t, "the same", h, s, two, 2)
	other := wordsOf([2]int{255, 6})
	set("a word is 0", other, api.OK)
	wantSpace(t, "a word is 0", h, s, other, 3)
	wantSpace(t, "its fork", h, fork, two, 3)
	set("the first ones", []int{1, 2}, api.OK)
	wantSpace(t, "the first ones", h, s, wordsOf([2]int{0, 1}, [2]int{1, 2}, [2]int{255, 6}), 3)
	set("none", nil, api.OK)
	set("too many", make([]int, api.Words+1), api.ErrSize)
	wantSpace(t, "too many", h, s, wordsOf([2]int{0, 1}, [2]int{1, 2}, [2]int{255, 6}), 3)
	set("no frame is free", wordsOf([2]int{100, 1}), api.ErrRoom)
}

// TestForkRefused: a frame that as many know as may be can't be forked; then nothing is known that was not ahead.
func TestForkRefused(t *testing.T) { // P1.4, P4.1
	h := hostOf(t, 2)
	s := space.Blank(h)
	s.Set(100, 4)
	for range api.MaxFrames - 1 {
		forkOf(t, s)
	}
	s.Set(0, 2)
	if fork, e := s.Fork(); fork != nil || e != api.ErrSize {
		t.Errorf("%v, %v; want nothing, ErrSize", fork, e)
	}
	wantSpace(t, "refused", h, s, wordsOf([2]int{100, 4}, [2]int{0, 2}), 2)
	s.Clear()
	wantSpace(t, "its page 0 was its own", h, s, wordsOf(), 1)
}
