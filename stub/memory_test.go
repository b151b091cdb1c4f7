package stub_test

import (
	"bytes"
	"slices"
	"testing"

	"hourglass/api"
	"hourglass/stub"
)

// withRoom: the same elements, with spare room that is not 0.
func withRoom[T any](l []T, spare T) []T {
	return append(slices.Clone(l), spare, spare, spare)[:len(l)]
}

// roomyTape: a tape of a guest that tells, each list of which has spare room.
func roomyTape(t *testing.T) api.Tape {
	words := image(li(1, 4), tell(1, api.Disk), ask(2, api.Key), tell(2, api.Console), st(2, 7, 100), jmp(-4))
	w := api.World{Values: []int{7, 8, 9, 10}, Blocks: [][]int{slices.Repeat([]int{3}, api.PageWords)}}
	tape := recorded(t, words, w, 30)
	return api.Tape{Image: withRoom(tape.Image, 98), Events: withRoom(tape.Events, 99), Count: tape.Count}
}

// roomySession: so it is with a session.
func roomySession() api.Session {
	return api.Session{At: 12, Breaks: withRoom([]int{2, 5, 9}, 93), Watches: withRoom([]int{66, 100}, 94)}
}

// scribble writes a number of its own into each list, spare room too, and tells whether each one keeps it.
func scribble(l ...[]int) bool {
	for i, x := range l {
		for k := range x[:cap(x)] {
			x[:cap(x)][k] = -1000 - i
		}
	}
	for i, x := range l {
		if slices.ContainsFunc(x[:cap(x)], func(w int) bool { return w != -1000-i }) {
			return false
		}
	}
	return true
}

// TestAnswerMemory: what is handed in stays, and what is answered is apart.
func TestAnswerMemory(t *testing.T) { // P7.2
	tape, s := roomyTape(t), roomySession()
	wasTape, was := roomyTape(t), roomySession()
	stays := func(what string) {
		t.Helper()
		image, events := tape.Image[:cap(tape.Image)], tape.Events[:cap(tape.Events)]
		if !slices.Equal(image, wasTape.Image[:cap(wasTape.Image)]) || !bytes.Equal(events, wasTape.Events[:cap(wasTape.Events)]) {
			t.Errorf("%s: the tape is changed: %v", what, tape)
		}
		if s.At != was.At || !slices.Equal(s.Breaks[:6], was.Breaks[:6]) || !slices.Equal(s.Watches[:5], was.Watches[:5]) {
			t.Errorf("%s: the session is changed: %v", what, s)
		}
	}
	for _, p := range []string{
		"", "$?#00", "$", packet("?"), packet("s"), packet("bs"), packet("c"), packet("bc"), packet("g"), packet("m0,40"), packet("M"), packet("what"),
		packet("Z0,3"), packet("Z0,1"), packet("Z0,200"), packet("Z0,5"), packet("z0,2"), packet("z0,9"), packet("z0,3"), packet("Z0,256"),
		packet("Z2,3"), packet("Z2,70"), packet("Z2,200"), packet("Z2,66"), packet("z2,66"), packet("z2,100"), packet("z2,3"), packet("Z2,256"),
	} {
		one, told, e := stub.Answer(roomy, tape, s, p)
		other, _, _ := stub.Answer(roomy, tape, s, p)
		stays(p)
		if e != api.OK || !scribble(one.Breaks, one.Watches) {
			t.Errorf("%q: %v: two lists of one answer share memory", p, e)
		}
		stays(p + ", what was answered is written")
		again, toldAgain, _ := stub.Answer(roomy, tape, s, p)
		if !sameSession(again, other) || toldAgain != told {
			t.Errorf("%q: %v, %q; it was %v, %q", p, again, toldAgain, other, told)
		}
	}
	stub.Check(tape, s)
	stub.Answer(api.Setup{}, tape, s, "$?#3f")
	stub.Answer(roomy, api.Tape{Image: tape.Image, Events: tape.Events, Count: 2}, s, "$?#3f")
	stub.Answer(roomy, tape, api.Session{At: 31, Breaks: s.Breaks, Watches: s.Watches}, "$?#3f")
	stays("what is refused")
}

// TestOneListTwice: Breaks and Watches may be one list, or one with the image; of the answer they are two.
func TestOneListTwice(t *testing.T) { // P7.2
	one := append(make([]int, 0, 9), 2, 5)
	tape := api.Tape{Image: one, Events: encoded(), Count: 3}
	s := api.Session{Breaks: one, Watches: one}
	wantAnswer(t, tape, s, "Z0,3", "OK", api.Session{Breaks: []int{2, 3, 5}, Watches: []int{2, 5}})
	wantAnswer(t, tape, s, "z2,2", "OK", api.Session{Breaks: []int{2, 5}, Watches: []int{5}})
	got, _, _ := stub.Answer(roomy, tape, s, packet("?"))
	if !scribble(got.Breaks, got.Watches) || !slices.Equal(one[:3], []int{2, 5, 0}) {
		t.Error("lists share memory")
	}
}
