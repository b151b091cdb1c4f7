package stub_test

import (
	"fmt"
	"math"
	"slices"
	"strings"
	"testing"

	"hourglass/api"
	"hourglass/cpu"
	"hourglass/evlog"
	"hourglass/run"
	"hourglass/stub"
)

// far: numbers that are far outside of all bounds.
var far = []int{math.MinInt, math.MinInt + 1, -1 << 32, 1 << 32, math.MaxInt - 1, math.MaxInt}

// roomy: a setup with room enough for all guests.
var roomy = api.Setup{Frames: 64, Every: 7, Keep: 2}

// die: numbers that look drawn, the same each time.
type die uint64

func (d *die) below(n int) int {
	*d = *d*6364136223846793005 + 1442695040888963407
	return int(uint64(*d>>33) % uint64(n))
}

// image of instructions, from word 0 on; what is none ends in a panic, so that no test goes on with it.
func image(l ...api.Instr) []int {
	var words []int
	for _, i := range l {
		w, e := cpu.Encode(i)
		if e != api.OK {
			panic(e)
		}
		words = append(words, w)
	}
	return words
}

// Some instructions by short names.
func nop() api.Instr             { return api.Instr{Op: api.Nop} }
func halt() api.Instr            { return api.Instr{Op: api.Halt} }
func li(a, n int) api.Instr      { return api.Instr{Op: api.Li, A: a, N: n} }
func addi(a, b, n int) api.Instr { return api.Instr{Op: api.Addi, A: a, B: b, N: n} }
func st(a, b, n int) api.Instr   { return api.Instr{Op: api.St, A: a, B: b, N: n} }
func jmp(n int) api.Instr        { return api.Instr{Op: api.Jmp, N: n} }
func ask(a, port int) api.Instr  { return api.Instr{Op: api.In, A: a, N: port} }
func tell(a, port int) api.Instr { return api.Instr{Op: api.Out, A: a, N: port} }
func ei(n int) api.Instr         { return api.Instr{Op: api.Ei, N: n} }
func table(a int) api.Instr      { return api.Instr{Op: api.Map, A: a} }

// encoded events that may be.
func encoded(l ...api.Event) []byte {
	b, e := evlog.Encode(l)
	if e != api.OK {
		panic(e)
	}
	return b
}

// recorded in a world: a tape that may be.
func recorded(t *testing.T, words []int, w api.World, n int) api.Tape {
	t.Helper()
	tape, _, e := run.Record(words, w, n)
	if e != api.OK {
		t.Fatal(e)
	}
	return tape
}

// counting: at 0 register 1 is told 5; then, again and again, it is written to word 100, is one more, and the guest goes back.
// So the Pc is 1, 2, 3 at the places 1, 2, 3 and so on, and the steps to 2, 5, 8 and so on write.
func counting(t *testing.T) api.Tape {
	t.Helper()
	return recorded(t, image(li(1, 5), st(1, 7, 100), addi(1, 1, 1), jmp(-2)), api.World{}, 10)
}

// blank: a tape of 9 places of a guest without an image: it halts at once.
func blank() api.Tape { return api.Tape{Events: encoded(), Count: 9} }

// upTo: the numbers from 0 to below n.
func upTo(n int) []int {
	l := make([]int, n)
	for i := range l {
		l[i] = i
	}
	return l
}

// packet of a text, but not by Frame.
func packet(text string) string {
	sum := 0
	for i := range len(text) {
		sum += int(text[i])
	}
	return fmt.Sprintf("$%s#%02x", text, sum%256)
}

func sameSession(s, r api.Session) bool {
	return s.At == r.At && slices.Equal(s.Breaks, r.Breaks) && slices.Equal(s.Watches, r.Watches)
}

// wantAnswer: a command is answered so, in a packet, and the session is this one then.
func wantAnswer(t *testing.T, tape api.Tape, s api.Session, command, want string, then api.Session) {
	t.Helper()
	got, p, e := stub.Answer(roomy, tape, s, packet(command))
	if e != api.OK || p != "+"+packet(want) || !sameSession(got, then) {
		t.Errorf("%q in %v: %v, %q, %v; want %v, %q, OK", command, s, got, p, e, then, "+"+packet(want))
	}
}

// wantStop: a command leads to this place, and nothing else of the session is changed.
func wantStop(t *testing.T, tape api.Tape, s api.Session, command string, at, end int) {
	t.Helper()
	then := s
	then.At = at
	wantAnswer(t, tape, s, command, fmt.Sprintf("T%d:%d", at, end), then)
}

// wantTold: a command is told so, and the session stays.
func wantTold(t *testing.T, tape api.Tape, s api.Session, command, want string) {
	t.Helper()
	wantAnswer(t, tape, s, command, want, s)
}

// wantRefused: Answer refuses so, and tells nothing else.
func wantRefused(t *testing.T, what string, u api.Setup, tape api.Tape, s api.Session, p string, want api.Errno) {
	t.Helper()
	got, told, e := stub.Answer(u, tape, s, p)
	if e != want || told != "" || !sameSession(got, api.Session{}) {
		t.Errorf("%s: %v, %q, %v; want nothing, %v", what, got, told, e, want)
	}
}

// wantState: Check answers so, and Answer refuses what it refuses, whatever the packet is.
func wantState(t *testing.T, what string, tape api.Tape, s api.Session, want api.Errno) {
	t.Helper()
	if e := stub.Check(tape, s); e != want {
		t.Errorf("%s: %v: %v; want %v", what, s, e, want)
	}
	for _, p := range []string{"$?#3f", "", "$what#00", strings.Repeat("$", api.MaxPacket+1)} {
		if want != api.OK {
			wantRefused(t, what, roomy, tape, s, p, want)
			wantRefused(t, what+", no room", api.Setup{Every: 1, Keep: 1}, tape, s, p, want)
		}
	}
	if want == api.OK {
		wantTold(t, tape, s, "", "")
	}
}

func TestCheckAt(t *testing.T) { // P7.2
	tape := counting(t)
	for at := range 11 {
		wantState(t, "a place", tape, api.Session{At: at}, api.OK)
	}
	for _, at := range append(far, -2, -1, 11, 12, api.MaxCount) {
		wantState(t, "no place", tape, api.Session{At: at}, api.ErrState)
	}
	tape.Count = 0
	wantState(t, "the one place", tape, api.Session{}, api.OK)
	wantState(t, "behind the one place", tape, api.Session{At: 1}, api.ErrState)
}

// TestCheckAsksTheCountAlone: whether the tape may be is another question.
func TestCheckAsksTheCountAlone(t *testing.T) { // P7.2
	for _, c := range []struct {
		tape api.Tape
		at   int
		want api.Errno
	}{
		{api.Tape{}, 0, api.OK},
		{api.Tape{}, 1, api.ErrState},
		{api.Tape{Count: math.MaxInt}, math.MaxInt, api.OK},
		{api.Tape{Count: -1}, 0, api.ErrState},
		{api.Tape{Count: -1}, -1, api.ErrState},
		{api.Tape{Count: math.MinInt}, math.MinInt, api.ErrState},
		{api.Tape{Image: make([]int, 999), Events: []byte{7}, Count: 3}, 3, api.OK},
	} {
		if e := stub.Check(c.tape, api.Session{At: c.at}); e != c.want {
			t.Errorf("at %d of %d: %v; want %v", c.at, c.tape.Count, e, c.want)
		}
	}
}

// wantStops: so are these Breaks, and these Watches.
func wantStops(t *testing.T, what string, l []int, want api.Errno) {
	t.Helper()
	wantState(t, what, blank(), api.Session{Breaks: l}, want)
	wantState(t, what, blank(), api.Session{Watches: l}, want)
	wantState(t, what, blank(), api.Session{At: 9, Breaks: upTo(20), Watches: l}, want)
	wantState(t, what, blank(), api.Session{At: 9, Breaks: l, Watches: []int{3}}, want)
}

func TestCheckStops(t *testing.T) { // P7.2
	wantStops(t, "none", nil, api.OK)
	wantStops(t, "none, not nil", []int{}, api.OK)
	wantStops(t, "the first and the last word", []int{0, 255}, api.OK)
	wantStops(t, "beside one another", []int{7, 8, 9}, api.OK)
	wantStops(t, "as many as may be", upTo(20), api.OK)
	wantStops(t, "the last ones", []int{236, 237, 238, 239, 240, 241, 242, 243, 244, 245, 246, 247, 248, 249, 250, 251, 252, 253, 254, 255}, api.OK)
	for _, n := range []int{21, 22, 256, 5000} {
		wantStops(t, "too many", upTo(n), api.ErrState)
	}
	wantStops(t, "twice the same", []int{5, 5}, api.ErrState)
	wantStops(t, "twice the first", []int{0, 0}, api.ErrState)
	wantStops(t, "twice the same at the end", []int{1, 5, 9, 9}, api.ErrState)
	wantStops(t, "not rising", []int{6, 5}, api.ErrState)
	wantStops(t, "not rising at the end", []int{1, 2, 9, 4}, api.ErrState)
	for _, n := range append(far, -2, -1, 256, 257) {
		wantStops(t, "no word", []int{n}, api.ErrState)
		wantStops(t, "no word first", []int{n, 5}, api.ErrState)
		wantStops(t, "no word last", []int{5, n}, api.ErrState)
	}
}
