package space_test

import (
	"slices"
	"testing"

	"hourglass/api"
	"hourglass/space"
)

// die: numbers that look drawn, the same each time.
type die uint64

func (d *die) draw(below int) int {
	*d = *d*6364136223846793005 + 1442695040888963407
	return int(uint64(*d>>33) % uint64(below))
}

// model of both spaces without frames: their words, and which pages were written ahead of the fork, and by which one behind it.
type model struct {
	words   [2][]int
	first   [api.Pages]bool
	written [2][api.Pages]bool
}

// needed frames: a page that was written ahead of the fork needs one, and one more if any of both writes it; else each one that writes it needs one.
func (m *model) needed() int {
	count := 0
	for page := range api.Pages {
		a, b := m.written[0][page], m.written[1][page]
		switch {
		case m.first[page] && (a || b), a && b:
			count += 2
		case m.first[page], a, b:
			count++
		}
	}
	return count
}

// play as space.Play does, by the model.
func (m *model) play(n int, first [][2]int, writes [][3]int) api.Errno {
	m.words = [2][]int{make([]int, api.Words), make([]int, api.Words)}
	for _, w := range first {
		if w[0] < 0 || w[0] >= api.Words {
			return api.ErrRange
		}
		m.first[w[0]/api.PageWords] = true
		m.words[0][w[0]] = w[1]
		if m.needed() > n {
			return api.ErrRoom
		}
	}
	copy(m.words[1], m.words[0])
	for _, w := range writes {
		if w[0] < 0 || w[0] >= api.Words {
			return api.ErrRange
		}
		who := min(w[2], 1)
		m.written[who][w[0]/api.PageWords] = true
		m.words[who][w[0]] = w[1]
		if m.needed() > n {
			return api.ErrRoom
		}
	}
	return api.OK
}

// drawn writes, most of them to the first few words.
func drawn(d *die) (int, [][2]int, [][3]int) {
	most := 1 + d.draw(api.Words)
	address := func() int {
		if d.draw(200) == 0 {
			return outside[d.draw(len(outside))]
		}
		return d.draw(most)
	}
	var first [][2]int
	var writes [][3]int
	for range d.draw(30) {
		first = append(first, [2]int{address(), d.draw(9) - 4})
	}
	for range d.draw(60) {
		writes = append(writes, [3]int{address(), d.draw(9) - 4, d.draw(3)})
	}
	return d.draw(2*api.Pages + 4), first, writes
}

// TestDrawnPlays: what is told is what a model tells that knows of no frames.
func TestDrawnPlays(t *testing.T) { // P4.1, P4.2, P4.3
	d := die(7)
	seen := map[api.Errno]int{}
	for range 3000 {
		n, first, writes := drawn(&d)
		var m model
		want := m.play(n, first, writes)
		seen[want]++
		a, b, known, e := space.Play(n, first, writes)
		if want != api.OK {
			wantRefused(t, "drawn", a, b, known, e, want)
			continue
		}
		wantPlayed(t, "drawn", a, b, known, e, m.words[0], m.words[1], m.needed())
	}
	for _, e := range []api.Errno{api.OK, api.ErrRange, api.ErrRoom} {
		if seen[e] < 100 {
			t.Errorf("drawn ones tell %v only %d times", e, seen[e])
		}
	}
}

// TestManyWrites: they take no more frames than pages, however many there are.
func TestManyWrites(t *testing.T) { // P4.1
	d := die(3)
	var m model
	first, writes := make([][2]int, 5000), make([][3]int, 5000)
	for i := range first {
		first[i] = [2]int{d.draw(api.Words), d.draw(1 << 30)}
		writes[i] = [3]int{d.draw(api.Words), d.draw(1 << 30), d.draw(2)}
	}
	if e := m.play(2*api.Pages, first, writes); e != api.OK {
		t.Fatal(e)
	}
	a, b, known, e := space.Play(2*api.Pages, first, writes)
	wantPlayed(t, "many", a, b, known, e, m.words[0], m.words[1], 2*api.Pages)
}

// handedIn: writes with spare room that is not 0.
func handedIn() ([][2]int, [][3]int) {
	return [][2]int{{0, 5}, {17, 6}, {-9, -9}}[:2], [][3]int{{0, 7, 1}, {40, 8, 0}, {-9, -9, -9}}[:2]
}

// TestHandedInStays: what was handed in stays as it was, spare room too, whether it is refused or not.
func TestHandedInStays(t *testing.T) {
	for _, n := range []int{-1, 0, 2, 9} {
		first, writes := handedIn()
		space.Play(n, first, writes)
		wantFirst, wantWrites := handedIn()
		if !slices.Equal(first[:3], wantFirst[:3]) || !slices.Equal(writes[:3], wantWrites[:3]) {
			t.Errorf("%d frames: %v, %v", n, first[:3], writes[:3])
		}
	}
}

// TestAnswersAreApart: what is done to one list, spare room too, is not seen in another one, of this answer or of the next one.
func TestAnswersAreApart(t *testing.T) {
	first, _ := handedIn()
	want := wordsOf(first...)
	a, b, known, e := space.Play(9, first, nil)
	wantPlayed(t, "ahead", a, b, known, e, want, want, 2)
	scribble(a)
	if !slices.Equal(b, want) {
		t.Errorf("the fork's words are changed: %v", b)
	}
	c, d, known, e := space.Play(9, first, nil)
	scribble(b)
	wantPlayed(t, "behind", c, d, known, e, want, want, 2)
}

func scribble(l []int) {
	l = l[:cap(l)]
	for i := range l {
		l[i] = -1000
	}
}
