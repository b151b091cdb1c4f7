package frames_test

import (
	"slices"
	"testing"

	"hourglass/api"
	"hourglass/frames"
)

// pair: a host, and frames to which the calls that copy do the same.
type pair struct {
	t *testing.T
	h *frames.Host
	f api.Frames
}

func newPair(t *testing.T, n int) *pair {
	t.Helper()
	h, e := frames.NewHost(n)
	if e != api.OK {
		t.Fatalf("NewHost %d: %v", n, e)
	}
	f, _ := frames.New(n)
	return &pair{t, h, f}
}

// want: both answered the same; what was refused is left as it was.
func (p *pair) want(what string, at int, e api.Errno, g api.Frames, place int, want api.Errno) {
	p.t.Helper()
	if at != place || e != want {
		p.t.Errorf("%s: %d, %v; want %d, %v", what, at, e, place, want)
	}
	if want == api.OK {
		p.f = g
	}
	p.check(what)
}

// check: the host has the same frames.
func (p *pair) check(what string) {
	p.t.Helper()
	known := 0
	for n, refs := range p.f.Refs {
		words, e := p.h.Page(n)
		if refs == 0 {
			wantNoPage(p.t, what, words, e)
			continue
		}
		known++
		if e != api.OK || !slices.Equal(words[:], p.f.Data[n]) {
			p.t.Errorf("%s: Page %d: %v, %v; want %v, OK", what, n, words, e, p.f.Data[n])
		}
	}
	if p.h.Known() != known {
		p.t.Errorf("%s: %d are known; want %d", what, p.h.Known(), known)
	}
}

func wantNoPage(t *testing.T, what string, words [api.PageWords]int, e api.Errno) {
	t.Helper()
	if e != api.ErrNone || words != [api.PageWords]int{} {
		t.Errorf("%s: Page: %v, %v; want nothing, ErrNone", what, words, e)
	}
}

func (p *pair) occupy() {
	p.t.Helper()
	n, e := p.h.Occupy()
	g, place, want := frames.Take(p.f)
	p.want("Occupy", n, e, g, place, want)
}

func (p *pair) join(n int) {
	p.t.Helper()
	g, want := frames.Share(p.f, n)
	p.want("Join", 0, p.h.Join(n), g, 0, want)
}

func (p *pair) leave(n int) {
	p.t.Helper()
	g, want := frames.Drop(p.f, n)
	p.want("Leave", 0, p.h.Leave(n), g, 0, want)
}

func (p *pair) put(n, at, v int) {
	p.t.Helper()
	to, e := p.h.Put(n, at, v)
	g, place, want := frames.Write(p.f, n, at, v)
	p.want("Put", to, e, g, place, want)
}

func TestNewHost(t *testing.T) { // P1.1
	for _, n := range []int{0, 1, 2, api.MaxFrames - 1, api.MaxFrames} {
		p := newPair(t, n)
		p.check("NewHost")
		for range n + 2 {
			p.occupy()
		}
	}
	for _, n := range append(outside, api.MaxFrames+1, 1<<32) {
		if h, e := frames.NewHost(n); h != nil || e != api.ErrRange {
			t.Errorf("NewHost %d: %v, %v; want nothing, ErrRange", n, h, e)
		}
	}
}

// TestHostIsFrames: what is done to a host is what the calls that copy do.
func TestHostIsFrames(t *testing.T) { // P1.3, P1.4, P1.5
	seed := uint64(11)
	draw := func(below int) int {
		seed = seed*6364136223846793005 + 1442695040888963407
		return int((seed >> 33) % uint64(below))
	}
	for n := range 8 {
		p := newPair(t, n)
		for range 300 {
			at := draw(n+2) - 1
			switch draw(6) {
			case 0:
				p.occupy()
			case 1:
				p.join(at)
			case 2:
				p.leave(at)
			default:
				p.put(at, draw(api.PageWords+2)-1, draw(9)-4)
			}
		}
	}
}

// TestHostRefuses: what the calls that copy refuse, and it stays as it was.
func TestHostRefuses(t *testing.T) { // P1.2, P1.4, P1.5
	p := newPair(t, 3)
	p.occupy()
	p.put(0, 5, 7)
	for _, n := range append(outside, 1, 2, 3, 4) {
		words, e := p.h.Page(n)
		wantNoPage(t, "no frame", words, e)
		p.join(n)
		p.leave(n)
		p.put(n, 5, 8)
		p.put(n, -1, 8)
	}
	for _, at := range append(outside, api.PageWords) {
		p.put(0, at, 8)
	}
	for range api.MaxFrames + 1 {
		p.join(0)
	}
	p.occupy()
	p.occupy()
	p.put(0, 5, 8)
	p.put(1, 5, 8)
	p.occupy()
}
