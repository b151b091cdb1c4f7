// Package frames: pages of the host that several may know.
package frames

import "hourglass/api"

// New frames: all are free.
func New(n int) (api.Frames, api.Errno) {
	if n < 0 || n > api.MaxFrames {
		return api.Frames{}, api.ErrRange
	}
	return api.Frames{Data: make([][]int, n), Refs: make([]int, n)}, api.OK
}

// Check frames: what is known has words, and what is free has none.
func Check(f api.Frames) api.Errno {
	if len(f.Data) != len(f.Refs) || len(f.Refs) > api.MaxFrames {
		return api.ErrState
	}
	for n, refs := range f.Refs {
		if refs < 0 || refs > api.MaxFrames || len(f.Data[n]) != wordsFor(refs) {
			return api.ErrState
		}
	}
	return api.OK
}

// Copy of frames, in memory of its own.
func Copy(f api.Frames) api.Frames {
	data := make([][]int, len(f.Data))
	for n, words := range f.Data {
		data[n] = copyWords(words)
	}
	return api.Frames{Data: data, Refs: copyWords(f.Refs)}
}

// Take the first free frame: its words are 0.
func Take(f api.Frames) (api.Frames, int, api.Errno) {
	h, e := copied(f)
	if e != api.OK {
		return api.Frames{}, 0, e
	}
	n, e := h.Occupy()
	if e != api.OK {
		return api.Frames{}, 0, e
	}
	return h.f, n, api.OK
}

// Share a frame: one more knows it.
func Share(f api.Frames, n int) (api.Frames, api.Errno) {
	h, e := copied(f)
	if e != api.OK {
		return api.Frames{}, e
	}
	if e := h.Join(n); e != api.OK {
		return api.Frames{}, e
	}
	return h.f, api.OK
}

// Drop a frame: one less knows it; if nobody does it is free.
func Drop(f api.Frames, n int) (api.Frames, api.Errno) {
	h, e := copied(f)
	if e != api.OK {
		return api.Frames{}, e
	}
	if e := h.Leave(n); e != api.OK {
		return api.Frames{}, e
	}
	return h.f, api.OK
}

// Read a word of a frame.
func Read(f api.Frames, n, at int) (int, api.Errno) {
	if e := Check(f); e != api.OK {
		return 0, e
	}
	if e := checkWord(f, n, at); e != api.OK {
		return 0, e
	}
	return f.Data[n][at], api.OK
}

// Write a word of a frame: where it is then: one that others know stays as it is, and a copy is written.
func Write(f api.Frames, n, at, v int) (api.Frames, int, api.Errno) {
	h, e := copied(f)
	if e != api.OK {
		return api.Frames{}, 0, e
	}
	to, e := h.Put(n, at, v)
	if e != api.OK {
		return api.Frames{}, 0, e
	}
	return h.f, to, api.OK
}

// wordsFor: how many words a frame has that so many know.
func wordsFor(refs int) int {
	if refs == 0 {
		return 0
	}
	return api.PageWords
}

// checkKnown: of frames that may be, is there such a one, and is it known?
func checkKnown(f api.Frames, n int) api.Errno {
	if n < 0 || n >= len(f.Refs) || f.Refs[n] == 0 {
		return api.ErrNone
	}
	return api.OK
}

// checkWord tells ErrNone ahead of ErrRange: what is free has no words to ask for.
func checkWord(f api.Frames, n, at int) api.Errno {
	if e := checkKnown(f, n); e != api.OK {
		return e
	}
	if at < 0 || at >= api.PageWords {
		return api.ErrRange
	}
	return api.OK
}

// copyWords leaves no spare room, so that nothing appended to one answer can be seen in another.
func copyWords(words []int) []int {
	l := make([]int, len(words))
	copy(l, words)
	return l
}
