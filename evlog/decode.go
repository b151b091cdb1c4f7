package evlog

import (
	"bytes"

	"hourglass/api"
)

// Decode bytes as events.
func Decode(b []byte) ([]api.Event, api.Errno) {
	summed, e := withoutSum(b)
	if e != api.OK {
		return nil, e
	}
	r := reader{summed}
	l, e := r.events()
	if e != api.OK {
		return nil, e
	}
	if e := Check(l); e != api.OK {
		return nil, e
	}
	return l, api.OK
}

// withoutSum: the bytes ahead of their sum.
func withoutSum(b []byte) ([]byte, api.Errno) {
	if len(b) > api.MaxBytes {
		return nil, api.ErrSize
	}
	if len(b) <= sumBytes {
		return nil, api.ErrShort
	}
	end := len(b) - sumBytes
	if !bytes.Equal(b[end:], sum(b[:end])) {
		return nil, api.ErrSum
	}
	return b[:end], api.OK
}

// reader of bytes, from the first one on: what is wrong first is what it tells.
type reader struct {
	left []byte
}

// events that may not be, too: Check comes behind all that is wrong in the bytes.
func (r *reader) events() ([]api.Event, api.Errno) {
	count, e := r.number()
	if e != api.OK {
		return nil, e
	}
	if count > api.MaxEvents {
		return nil, api.ErrSize
	}
	var l []api.Event
	last := 0
	for range count {
		x, e := r.event(last)
		if e != api.OK {
			return nil, e
		}
		l = append(l, x)
		last = x.At
	}
	if len(r.left) > 0 {
		return nil, api.ErrForm
	}
	return l, api.OK
}

// event behind one whose At is last.
func (r *reader) event(last int) (api.Event, api.Errno) {
	n, e := r.number()
	if e != api.OK {
		return api.Event{}, e
	}
	x := api.Event{At: last + n/kinds, Kind: n % kinds}
	switch x.Kind {
	case api.Irq:
		return x, api.OK
	case api.Block:
		x.Data, e = r.runs(dataWords[x.Kind])
	case api.Value:
		x.Data, e = r.word()
	default:
		e = api.ErrKind
	}
	if e != api.OK {
		return api.Event{}, e
	}
	return x, api.OK
}

// word that stands alone.
func (r *reader) word() ([]int, api.Errno) {
	n, e := r.number()
	if e != api.OK {
		return nil, e
	}
	return []int{anyKind(n)}, api.OK
}

// runs of words that are the same, so many words in all.
func (r *reader) runs(words int) ([]int, api.Errno) {
	var l []int
	last := 0
	for len(l) < words {
		often, e := r.number()
		if e != api.OK {
			return nil, e
		}
		n, e := r.number()
		if e != api.OK {
			return nil, e
		}
		// The first run has none ahead of it whose word it could be.
		isSame := n == 0 && len(l) > 0
		if often < 1 || often > words-len(l) || isSame {
			return nil, api.ErrForm
		}
		last += anyKind(n)
		for range often {
			l = append(l, last)
		}
	}
	return l, api.OK
}

// number that is not below 0. Of one without an end seven bytes end too early; with an eighth one they are too many.
func (r *reader) number() (int, api.Errno) {
	n, worth := 0, 1
	for i, b := range r.left {
		if i == mostBytes {
			return 0, api.ErrForm
		}
		n += int(b%more) * worth
		worth *= more
		if b >= more {
			continue
		}
		if b == 0 && i > 0 {
			return 0, api.ErrForm
		}
		r.left = r.left[i+1:]
		return n, api.OK
	}
	return 0, api.ErrShort
}
