package frames

import "hourglass/api"

// Host: frames that are changed where they lie, for who has them alone and writes much. Take, Share, Drop and Write do the same to a copy of all frames.
type Host struct {
	f api.Frames
}

// NewHost: all its frames are free.
func NewHost(n int) (*Host, api.Errno) {
	f, e := New(n)
	if e != api.OK {
		return nil, e
	}
	return &Host{f}, api.OK
}

// copied frames that may be, as a host.
func copied(f api.Frames) (*Host, api.Errno) {
	if e := Check(f); e != api.OK {
		return nil, e
	}
	return &Host{Copy(f)}, api.OK
}

// Occupy the first free frame, and tell its place.
func (h *Host) Occupy() (int, api.Errno) {
	for n, refs := range h.f.Refs {
		if refs == 0 {
			h.f.Refs[n] = 1
			h.f.Data[n] = make([]int, api.PageWords)
			return n, api.OK
		}
	}
	return 0, api.ErrRoom
}

// Join those who know a frame.
func (h *Host) Join(n int) api.Errno {
	if e := checkKnown(h.f, n); e != api.OK {
		return e
	}
	if h.f.Refs[n] == api.MaxFrames {
		return api.ErrSize
	}
	h.f.Refs[n]++
	return api.OK
}

// Leave those who know a frame; what nobody knows is free.
func (h *Host) Leave(n int) api.Errno {
	if e := checkKnown(h.f, n); e != api.OK {
		return e
	}
	h.f.Refs[n]--
	if h.f.Refs[n] == 0 {
		h.f.Data[n] = nil
	}
	return api.OK
}

// Put a word into a frame, and tell where it is then: one that others know stays as it is, and a copy is written.
func (h *Host) Put(n, at, v int) (int, api.Errno) {
	if e := checkWord(h.f, n, at); e != api.OK {
		return 0, e
	}
	to := n
	if h.f.Refs[n] > 1 {
		var e api.Errno
		if to, e = h.Occupy(); e != api.OK {
			return 0, e
		}
		copy(h.f.Data[to], h.f.Data[n])
		h.f.Refs[n]--
	}
	h.f.Data[to][at] = v
	return to, api.OK
}

// Page: the words of a frame. An array, so that they are the asker's own.
func (h *Host) Page(n int) ([api.PageWords]int, api.Errno) {
	if e := checkKnown(h.f, n); e != api.OK {
		return [api.PageWords]int{}, e
	}
	return [api.PageWords]int(h.f.Data[n]), api.OK
}

// Known: how many frames somebody knows.
func (h *Host) Known() int {
	count := 0
	for _, refs := range h.f.Refs {
		if refs > 0 {
			count++
		}
	}
	return count
}
