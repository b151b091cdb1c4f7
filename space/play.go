package space

import (
	"hourglass/api"
	"hourglass/frames"
)

// Play writes to two spaces of one host, the second one a fork of the first one: both their words, and how many frames are known then. Each write: an address, a word, and 0 for the first space, any other number for the second one.
func Play(n int, first [][2]int, writes [][3]int) ([]int, []int, int, api.Errno) {
	h, e := frames.NewHost(n)
	if e != api.OK {
		return nil, nil, 0, e
	}
	s := Blank(h)
	for _, w := range first {
		if e := s.Set(w[0], w[1]); e != api.OK {
			return nil, nil, 0, e
		}
	}
	fork, e := s.Fork()
	if e != api.OK {
		return nil, nil, 0, e
	}
	both := [2]*Space{s, fork}
	for _, w := range writes {
		if e := both[which(w[2])].Set(w[0], w[1]); e != api.OK {
			return nil, nil, 0, e
		}
	}
	return both[0].Words(), both[1].Words(), h.Known(), api.OK
}

// which of the two spaces is written: 0 tells the first one, any other number its fork.
func which(n int) int {
	if n == 0 {
		return 0
	}
	return 1
}
