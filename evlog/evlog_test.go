package evlog_test

import (
	"bytes"
	"math"
	"slices"
	"testing"

	"hourglass/api"
	"hourglass/evlog"
)

// far: numbers that are far outside of all bounds.
var far = []int{math.MinInt, math.MinInt + 1, math.MaxInt - 1, math.MaxInt}

// noWords: numbers that are no word, the nearest and the farthest ones.
var noWords = append([]int{api.MaxWord + 1, -api.MaxWord - 1}, far...)

// die: numbers that look drawn, the same each time.
type die uint64

func (d *die) below(n int) int {
	*d = *d*6364136223846793005 + 1442695040888963407
	return int(uint64(*d>>33) % uint64(n))
}

func irq(at int) api.Event { return api.Event{At: at, Kind: api.Irq} }

func value(at, word int) api.Event { return api.Event{At: at, Kind: api.Value, Data: []int{word}} }

func block(at int, words ...int) api.Event {
	return api.Event{At: at, Kind: api.Block, Data: words}
}

// times: so many words that are the same.
func times(n, word int) []int { return slices.Repeat([]int{word}, n) }

// sixteen: a page's words, each of them another one.
func sixteen(first int) []int {
	l := make([]int, api.PageWords)
	for i := range l {
		l[i] = first + i
	}
	return l
}

// irqs: so many interrupts, at counts that rise from 0 on.
func irqs(n int) []api.Event {
	l := make([]api.Event, n)
	for i := range l {
		l[i] = irq(i)
	}
	return l
}

// same events: a list without elements may be nil or not.
func same(l, m []api.Event) bool {
	return slices.EqualFunc(l, m, func(x, y api.Event) bool {
		return x.At == y.At && x.Kind == y.Kind && slices.Equal(x.Data, y.Data)
	})
}

// copied events, in memory of their own.
func copied(l []api.Event) []api.Event {
	m := slices.Clone(l)
	for i := range m {
		m[i].Data = slices.Clone(m[i].Data)
	}
	return m
}

// wantBoth: Encode tells these bytes of the events, and Decode these events of the bytes.
func wantBoth(t *testing.T, what string, l []api.Event, b []byte) {
	t.Helper()
	if e := evlog.Check(l); e != api.OK {
		t.Errorf("%s: Check: %v", what, e)
	}
	if got, e := evlog.Encode(l); e != api.OK || !bytes.Equal(got, b) {
		t.Errorf("%s: Encode: %v, %v; want %v, OK", what, got, e, b)
	}
	if got, e := evlog.Decode(b); e != api.OK || !same(got, l) {
		t.Errorf("%s: Decode: %v, %v; want %v, OK", what, got, e, l)
	}
}

// wantRefused: Check and Encode refuse events so, and Encode tells nothing else.
func wantRefused(t *testing.T, what string, l []api.Event, want api.Errno) {
	t.Helper()
	if e := evlog.Check(l); e != want {
		t.Errorf("%s: Check: %v; want %v", what, e, want)
	}
	if b, e := evlog.Encode(l); len(b) != 0 || e != want {
		t.Errorf("%s: Encode: %v, %v; want nothing, %v", what, b, e, want)
	}
}

// wantNoEvents: Decode refuses bytes so, and tells nothing else.
func wantNoEvents(t *testing.T, what string, b []byte, want api.Errno) {
	t.Helper()
	if l, e := evlog.Decode(b); len(l) != 0 || e != want {
		t.Errorf("%s: Decode: %d events, %v; want nothing, %v", what, len(l), e, want)
	}
}

// drawn events that may be.
func drawn(d *die) []api.Event {
	var l []api.Event
	x := api.Event{At: -1}
	for range d.below(30) {
		x = api.Event{At: x.At, Kind: x.Kind + 1 + d.below(3)}
		if x.At < 0 || x.Kind > api.Value {
			x.At, x.Kind = x.At+1+d.below(40), 1+d.below(3)
		}
		switch x.Kind {
		case api.Block:
			for range api.PageWords {
				x.Data = append(x.Data, drawnWord(d))
			}
		case api.Value:
			x.Data = []int{drawnWord(d)}
		}
		l = append(l, x)
	}
	return l
}

// drawnWord: a small one, so that words are often the same, a greater one, or one of the edges.
func drawnWord(d *die) int {
	switch d.below(4) {
	case 0:
		return d.below(1<<20) - 1<<19
	case 1:
		return []int{api.MaxWord, -api.MaxWord, 63, 64, -64, -65}[d.below(6)]
	}
	return d.below(3) - 1
}
