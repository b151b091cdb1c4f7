package stub_test

import (
	"strconv"
	"strings"
	"testing"

	"hourglass/api"
	"hourglass/run"
)

// TestStop: where the session is, and how the guest ended.
func TestStop(t *testing.T) { // P7.3, P7.4
	for at := range 11 {
		wantStop(t, counting(t), api.Session{At: at, Breaks: []int{2}, Watches: []int{100}}, "?", at, api.Going)
	}
	for what, c := range map[string]struct {
		words []int
		end   int
	}{
		"Halt":    {image(nop(), nop(), halt()), api.Halted},
		"BadCode": {append(image(nop(), nop()), api.MaxWord), api.BadCode},
		"BadAt":   {image(nop(), nop(), ask(1, 9)), api.BadAt},
		"BadPage": {image(nop(), table(1)), api.BadPage},
	} {
		tape := recorded(t, c.words, api.World{}, 9)
		if tape.Count != 3 {
			t.Errorf("%s: %d instructions", what, tape.Count)
		}
		wantStop(t, tape, api.Session{At: 2}, "?", 2, api.Going)
		wantStop(t, tape, api.Session{At: 3}, "?", 3, c.end)
		wantStop(t, tape, api.Session{At: 2}, "s", 3, c.end)
		wantStop(t, tape, api.Session{At: 3}, "s", 3, c.end)
		wantStop(t, tape, api.Session{At: 3}, "bs", 2, api.Going)
		wantStop(t, tape, api.Session{}, "c", 3, c.end)
		wantStop(t, tape, api.Session{At: 3}, "c", 3, c.end)
		wantStop(t, tape, api.Session{At: 3}, "bc", 0, api.Going)
	}
}

// TestSteps: on and back, but not beyond the tape.
func TestSteps(t *testing.T) { // P7.4
	for at := range 11 {
		s := api.Session{At: at, Breaks: upTo(5), Watches: []int{100}}
		wantStop(t, counting(t), s, "s", min(at+1, 10), api.Going)
		wantStop(t, counting(t), s, "bs", max(at-1, 0), api.Going)
	}
	none := api.Tape{Events: encoded()}
	for _, command := range []string{"?", "s", "bs", "c", "bc"} {
		wantStop(t, none, api.Session{Breaks: []int{0}}, command, 0, api.Going)
	}
}

// wantWalks: with these stops `c` leads from each place to the next one of these, or to the last of all; so `bc` back, or to 0.
func wantWalks(t *testing.T, tape api.Tape, s api.Session, on, back []int) {
	t.Helper()
	for at := range tape.Count + 1 {
		next, last := tape.Count, 0
		for _, place := range on {
			if place > at {
				next = min(next, place)
			}
		}
		for _, place := range back {
			if place < at {
				last = max(last, place)
			}
		}
		s.At = at
		wantWalk(t, tape, s, "c", next)
		wantWalk(t, tape, s, "bc", last)
	}
}

// wantWalk: a command leads there, however the guest has ended by then.
func wantWalk(t *testing.T, tape api.Tape, s api.Session, command string, at int) {
	t.Helper()
	m, e := run.Replay(tape, at)
	if e != api.OK {
		t.Fatal(e)
	}
	wantStop(t, tape, s, command, at, m.End)
}

func TestBreaks(t *testing.T) { // P7.4
	tape := counting(t)
	for _, c := range []struct{ breaks, places []int }{
		{nil, nil},
		{[]int{0}, []int{0}},
		{[]int{1}, []int{1, 4, 7, 10}},
		{[]int{2}, []int{2, 5, 8}},
		{[]int{3}, []int{3, 6, 9}},
		{[]int{4}, nil},
		{[]int{255}, nil},
		{[]int{0, 3}, []int{0, 3, 6, 9}},
		{[]int{1, 3}, []int{1, 3, 4, 6, 7, 9, 10}},
		{[]int{0, 1, 2, 3}, upTo(11)},
		{upTo(20), upTo(11)},
	} {
		wantWalks(t, tape, api.Session{Breaks: c.breaks}, c.places, c.places)
	}
}

// TestWatches: on it stops behind the instruction that wrote, back at it.
func TestWatches(t *testing.T) { // P7.4
	tape := counting(t)
	on, back := []int{2, 5, 8}, []int{1, 4, 7}
	wantWalks(t, tape, api.Session{Watches: []int{100}}, on, back)
	wantWalks(t, tape, api.Session{Watches: []int{0, 99, 100, 101, 255}}, on, back)
	wantWalks(t, tape, api.Session{Watches: []int{0, 1, 7, 99, 101}}, nil, nil)
	wantWalks(t, tape, api.Session{Breaks: []int{3}, Watches: []int{100}}, []int{2, 3, 5, 6, 8, 9}, []int{1, 3, 4, 6, 7, 9})
	wantWalks(t, tape, api.Session{Breaks: []int{100}, Watches: []int{1, 2, 3}}, nil, nil)
	// What is not written, as there are no more instructions, is no reason to stop: the one at 10 would write.
	wantWalks(t, recorded(t, tape.Image, api.World{}, 4), api.Session{Watches: []int{100}}, []int{2}, []int{1})
}

// TestWatchesTheSameWord: a word that is written is written, even if it is the one that was there.
func TestWatchesTheSameWord(t *testing.T) { // P7.4
	tape := recorded(t, image(st(1, 7, 0), st(1, 7, 255), st(1, 7, 200), jmp(-1)), api.World{}, 9)
	wantWalks(t, tape, api.Session{Watches: []int{200}}, []int{3, 5, 7, 9}, []int{2, 4, 6, 8})
	wantWalks(t, tape, api.Session{Watches: []int{255}}, []int{2}, []int{1})
	// Behind the first instruction there is none any more: the words of the first one are 0, Halt.
	wantWalks(t, recorded(t, tape.Image[1:], api.World{}, 9), api.Session{Watches: []int{0, 255}}, []int{1}, []int{0})
}

// TestWatchesNoBlocks: a block that comes writes no word.
func TestWatchesNoBlocks(t *testing.T) { // P7.4
	words := image(li(1, 6), tell(1, api.Disk), nop(), nop(), st(1, 7, 97), halt())
	w := api.World{Blocks: [][]int{upTo(api.PageWords)}, Delays: []int{1}}
	tape := recorded(t, words, w, 9)
	if m, _ := run.Replay(tape, tape.Count); m.Mem[98] != 2 {
		t.Fatal("no block came")
	}
	wantWalks(t, tape, api.Session{Watches: upTo(116)[96:]}, []int{5}, []int{4})
}

// paged: a guest with a table, by which the address 16 and all behind in that page mean page 5, and may be written; 32 means page 5, too, but may not.
func paged(last ...api.Instr) []int {
	words := append(image(li(1, 2), table(1), li(2, 9)), image(last...)...)
	words = append(words, make([]int, 48-len(words))...)
	copy(words[32:], []int{32, 48 + 5, 32 + 5, 48 + 3})
	return words
}

// TestWatchesWhatIsMeant: with a table, too, it is the word of memory that is watched, not the address.
func TestWatchesWhatIsMeant(t *testing.T) { // P7.4
	tape := recorded(t, paged(st(2, 7, 18), st(2, 7, 50), nop(), halt()), api.World{}, 20)
	if m, _ := run.Replay(tape, tape.Count); m.Mem[82] != 9 || m.Mem[50] != 9 || m.End != api.Halted {
		t.Fatal("another guest", m)
	}
	wantWalks(t, tape, api.Session{Watches: []int{82}}, []int{4}, []int{3})
	wantWalks(t, tape, api.Session{Watches: []int{50}}, []int{5}, []int{4})
	wantWalks(t, tape, api.Session{Watches: []int{18, 34, 80, 81, 83}}, nil, nil)
}

// TestWatchesTheEnded: an instruction that ends the guest writes nothing, and one of a guest that has ended neither.
func TestWatchesTheEnded(t *testing.T) { // P7.4
	tape := recorded(t, paged(nop(), st(2, 7, 34)), api.World{}, 20)
	tape.Count += 5
	if m, _ := run.Replay(tape, 6); m.End != api.BadPage || m.Pc != 4 {
		t.Fatal("another guest", m)
	}
	all := []int{2, 18, 34, 50, 66, 82}
	wantWalks(t, tape, api.Session{Watches: all}, nil, nil)
	// Its Pc stays, and may be one of Breaks at each place behind.
	wantWalks(t, tape, api.Session{Breaks: []int{4}, Watches: all}, []int{4, 5, 6, 7, 8, 9, 10}, []int{4, 5, 6, 7, 8, 9, 10})
}

// TestBreaksAndInterrupts: the Pc at a place is that ahead of the interrupt that comes then.
func TestBreaksAndInterrupts(t *testing.T) { // P7.4
	words := image(ei(1), nop(), nop(), nop(), jmp(-3), nop(), nop(), nop(), st(1, 7, 60), api.Instr{Op: api.Iret})
	tape := recorded(t, words, api.World{Irqs: []int{3}}, 9)
	if m, _ := run.Replay(tape, 4); m.Pc != 9 || m.Back != 3 {
		t.Fatal("no interrupt came", m)
	}
	wantWalks(t, tape, api.Session{Breaks: []int{api.Vector}}, nil, nil)
	wantWalks(t, tape, api.Session{Breaks: []int{api.Vector + 1}}, []int{4}, []int{4})
	wantWalks(t, tape, api.Session{Breaks: []int{3}}, []int{3, 5, 9}, []int{3, 5, 9})
	wantWalks(t, tape, api.Session{Watches: []int{60}}, []int{4}, []int{3})
}

// TestBreaksNoWords: a Pc that is no place of a word is one of no Breaks.
func TestBreaksNoWords(t *testing.T) { // P7.4
	for _, n := range []int{-1, 256, -api.MaxImm} {
		tape := recorded(t, image(jmp(n)), api.World{}, 5)
		if m, _ := run.Replay(tape, 2); m.Pc != n || m.End != api.BadAt {
			t.Fatal("another guest", m)
		}
		wantWalks(t, tape, api.Session{Breaks: []int{0, 1, 255}, Watches: []int{0, 255}}, nil, nil)
		wantTold(t, tape, api.Session{At: 2}, "g", "0,0,0,0,0,0,0,0,"+strconv.Itoa(n))
	}
}

// TestLongWalks: as many instructions as may be.
func TestLongWalks(t *testing.T) { // P7.4
	words := image(nop(), addi(1, 1, 1), addi(2, 1, -900), api.Instr{Op: api.Jn, A: 2, N: -2}, st(1, 7, 90), jmp(0))
	tape := recorded(t, words, api.World{}, api.MaxCount)
	if tape.Count != api.MaxCount {
		t.Fatal("only", tape.Count)
	}
	end := api.Session{At: api.MaxCount, Breaks: []int{0}, Watches: []int{90}}
	wantStop(t, tape, end, "bc", 2701, api.Going)
	wantStop(t, tape, api.Session{At: 2701, Watches: []int{90}}, "bc", 0, api.Going)
	wantStop(t, tape, api.Session{Watches: []int{90}}, "c", 2702, api.Going)
	wantStop(t, tape, api.Session{At: 2702, Watches: []int{90}}, "c", api.MaxCount, api.Going)
	wantStop(t, tape, api.Session{Breaks: []int{6}}, "c", api.MaxCount, api.Going)
}

// TestRegisters: all of them, and the Pc, as they are told.
func TestRegisters(t *testing.T) { // P7.3, P7.4
	words := image(li(0, 7), li(1, -8), addi(2, 1, -api.MaxImm), li(7, 1), ask(3, api.Clock), ask(4, api.Key), jmp(100))
	tape := recorded(t, words, api.World{Values: []int{api.MaxWord, -api.MaxWord}}, 7)
	for at, want := range []string{
		"0,0,0,0,0,0,0,0,0",
		"7,0,0,0,0,0,0,0,1",
		"7,-8,0,0,0,0,0,0,2",
		"7,-8,-1048584,0,0,0,0,0,3",
		"7,-8,-1048584,0,0,0,0,1,4",
		"7,-8,-1048584,1099511627776,0,0,0,1,5",
		"7,-8,-1048584,1099511627776,-1099511627776,0,0,1,6",
		"7,-8,-1048584,1099511627776,-1099511627776,0,0,1,106",
	} {
		wantTold(t, tape, api.Session{At: at}, "g", want)
		if n := strings.Count(want, ","); n != api.Regs {
			t.Error(n)
		}
	}
}
