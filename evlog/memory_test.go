package evlog_test

import (
	"bytes"
	"slices"
	"testing"

	"hourglass/api"
	"hourglass/evlog"
)

// withRoom: the same words, with spare room that is not 0.
func withRoom(l []int) []int { return append(slices.Clone(l), 91, 92, 93)[:len(l)] }

// roomy: events each list of which has spare room.
func roomy() []api.Event {
	l := []api.Event{irq(0), block(0, sixteen(5)...), value(0, 7), value(1, 8), block(2, sixteen(6)...), irq(3)}
	for i := range l {
		l[i].Data = withRoom(l[i].Data)
	}
	return append(l, irq(99))[:len(l)]
}

// whole: events with their spare room, and that of their Data.
func whole(l []api.Event) []api.Event {
	l = slices.Clone(l[:cap(l)])
	for i := range l {
		l[i].Data = l[i].Data[:cap(l[i].Data)]
	}
	return l
}

// scribble writes a number of its own into all Data, spare room too, and tells whether each one keeps it.
func scribble(l []api.Event) bool {
	kept := true
	all := whole(l)
	for i, x := range all {
		for k := range x.Data {
			x.Data[k] = -1000 - i
		}
	}
	for i, x := range all {
		kept = kept && !slices.ContainsFunc(x.Data, func(w int) bool { return w != -1000-i })
	}
	for i := range l[:cap(l)] {
		l[:cap(l)][i] = api.Event{At: -1, Kind: -1}
	}
	return kept
}

// TestHandedInStays: neither a call nor what is done to its answer changes what was handed in, spare room too.
func TestHandedInStays(t *testing.T) { // P3.1, P3.4, P3.5
	l := roomy()
	evlog.Check(l)
	b, e := evlog.Encode(l)
	if e != api.OK || !same(whole(l), whole(roomy())) {
		t.Errorf("Encode: %v; %v", e, whole(l))
	}
	clear(b[:cap(b)])
	if !same(whole(l), whole(roomy())) {
		t.Errorf("the answer shares memory with %v", whole(l))
	}
	b, _ = evlog.Encode(l)
	b = append(b, 91, 92, 93)
	was := slices.Clone(b)
	m, e := evlog.Decode(b[:len(b)-3])
	if e != api.OK || !bytes.Equal(b, was) {
		t.Errorf("Decode: %v; %v, it was %v", e, b, was)
	}
	scribble(m)
	if !bytes.Equal(b, was) {
		t.Errorf("the answer shares memory with %v", b)
	}
}

// TestHandedInStaysWhenRefused: spare room too.
func TestHandedInStaysWhenRefused(t *testing.T) {
	for i := range roomy() {
		l := roomy()
		l[i].Kind = 4
		was := copied(whole(l))
		wantRefused(t, "no kind", l, api.ErrKind)
		if !same(whole(l), was) {
			t.Errorf("%v; it was %v", whole(l), was)
		}
	}
	for _, b := range [][]byte{sealed(1, 2, 16, 0, 9), sealed(2, 5, 1), {1, 2, 3, 4, 5, 6}} {
		b = append(b, 91, 92)
		was := slices.Clone(b)
		evlog.Decode(b[:len(b)-2])
		if !bytes.Equal(b, was) {
			t.Errorf("%v; it was %v", b, was)
		}
	}
}

// TestAnswersAreApart: no two lists of an answer share memory, and no two answers.
func TestAnswersAreApart(t *testing.T) { // P3.4, P3.5
	b, _ := evlog.Encode(roomy())
	c, _ := evlog.Encode(roomy())
	was := slices.Clone(b)
	clear(c[:cap(c)])
	if !bytes.Equal(b, was) {
		t.Errorf("an answer of Encode is changed: %v", b)
	}
	l, _ := evlog.Decode(b)
	m, _ := evlog.Decode(b)
	if !scribble(m) {
		t.Error("two lists of one answer share memory")
	}
	clear(b)
	if !same(l, roomy()) {
		t.Errorf("an answer of Decode is changed: %v", l)
	}
	if again, e := evlog.Decode(was); e != api.OK || !same(again, roomy()) {
		t.Errorf("what was done to an answer is kept: %v, %v", again, e)
	}
}

// TestOneListTwice: Data that were handed in as one are not one in what comes back.
func TestOneListTwice(t *testing.T) { // P3.4, P3.5
	words := sixteen(3)
	b, e := evlog.Encode([]api.Event{block(0, words...), block(1, words...)})
	if e != api.OK {
		t.Fatal(e)
	}
	l, e := evlog.Decode(b)
	if e != api.OK || !scribble(l) || !slices.Equal(words, sixteen(3)) {
		t.Errorf("%v, %v", l, e)
	}
}
