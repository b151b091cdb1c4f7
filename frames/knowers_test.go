package frames_test

import (
	"slices"
	"testing"

	"hourglass/api"
	"hourglass/frames"
)

// knower: one that knows a frame, and the words that it must see there.
type knower struct {
	frame int
	words []int
}

// crowd: frames and all that know them. Each one must see what it wrote, and nothing that others wrote.
type crowd struct {
	t    *testing.T
	f    api.Frames
	l    []knower
	seed uint64
}

// draw: numbers that look drawn, the same each time.
func (c *crowd) draw(below int) int {
	c.seed = c.seed*6364136223846793005 + 1442695040888963407
	return int((c.seed >> 33) % uint64(below))
}

func (c *crowd) known() int {
	seen := map[int]int{}
	for _, k := range c.l {
		seen[k.frame]++
	}
	return len(seen)
}

func (c *crowd) take() {
	g, n, e := frames.Take(c.f)
	if c.known() == len(c.f.Refs) {
		wantRefused(c.t, "Take", g, n, e, api.ErrRoom)
		return
	}
	c.f = g
	c.l = append(c.l, knower{n, make([]int, api.PageWords)})
}

func (c *crowd) share(i int) {
	g, e := frames.Share(c.f, c.l[i].frame)
	if e != api.OK {
		c.t.Fatalf("Share: %v", e)
	}
	c.f = g
	c.l = append(c.l, knower{c.l[i].frame, slices.Clone(c.l[i].words)})
}

func (c *crowd) drop(i int) {
	g, e := frames.Drop(c.f, c.l[i].frame)
	if e != api.OK {
		c.t.Fatalf("Drop: %v", e)
	}
	c.f = g
	c.l = slices.Delete(c.l, i, i+1)
}

func (c *crowd) write(i, at, v int) {
	alone := c.f.Refs[c.l[i].frame] == 1
	g, n, e := frames.Write(c.f, c.l[i].frame, at, v)
	if !alone && c.known() == len(c.f.Refs) {
		wantRefused(c.t, "Write", g, n, e, api.ErrRoom)
		return
	}
	c.f = g
	c.l[i].frame = n
	c.l[i].words[at] = v
}

// check: as many know each frame as are counted there, and each one sees its own words.
func (c *crowd) check() {
	if e := frames.Check(c.f); e != api.OK {
		c.t.Fatalf("Check: %v of %v", e, c.f)
	}
	refs := make([]int, len(c.f.Refs))
	for _, k := range c.l {
		refs[k.frame]++
		for at, want := range k.words {
			if v, e := frames.Read(c.f, k.frame, at); v != want || e != api.OK {
				c.t.Fatalf("Read %d %d: %d, %v; want %d, OK", k.frame, at, v, e, want)
			}
		}
	}
	if !slices.Equal(refs, c.f.Refs) {
		c.t.Fatalf("%v know the frames; want %v", c.f.Refs, refs)
	}
}

func (c *crowd) act() {
	way := c.draw(7)
	switch {
	case way == 0 || len(c.l) == 0:
		c.take()
	case way == 1:
		c.share(c.draw(len(c.l)))
	case way == 2:
		c.drop(c.draw(len(c.l)))
	default:
		c.write(c.draw(len(c.l)), c.draw(api.PageWords), c.draw(1000)-500)
	}
}

// TestKnowers: what one writes the others that know the frame do not see.
func TestKnowers(t *testing.T) { // P1.3, P1.4, P1.5
	for seed := range 60 {
		f, e := frames.New(1 + seed%9)
		if e != api.OK {
			t.Fatalf("New: %v", e)
		}
		c := &crowd{t: t, f: f, seed: uint64(seed)}
		for range 80 {
			c.act()
			c.check()
		}
	}
}
